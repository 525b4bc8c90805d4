import Derived.Test.YtidchaaahgnabaaDoorShelf
import Derived.Test.YtidchaaahgnabaaDoorHxD
import Derived.Lib.AppendStr
import Derived.Deep.AppendLies
namespace Go.Proofs.YtidchaaahgnabaaDoor
open Go.RowKit Go.Sort

/-- A builder that has been written, in the block b. -/
def Bd (B b : Nat) (l : List UInt8) (w : World) : Prop := Lib.BuilderAt 78 5 B b (.pointer (some ⟨b, 0, none⟩)) (Lib.byteCells l) w
theorem info_bd : (Tryd.prog.info? 78).isSome = true := by kernel_rfl
theorem copyCheck_any {B b : Nat} {l : List UInt8} (w : World) (h : Bd B b l w) :
    Calls Tryd.prog 56 #[.pointer (some ⟨b, 0, none⟩)] w fun e w' => e = .returned (.tuple #[]) ∧ w' = w := by
  obtain ⟨j, hj⟩ := Option.isSome_iff_exists.1 info_bd
  have c0 := h.cell0
  have hn : ∀ w, (binOp .neq 76 (.pointer (some ⟨b, 0, none⟩)) (.pointer (some ⟨b, 0, none⟩))).run Tryd.prog w = .ok (.bool false) w := fun w => Lib.run_neq_ptr_same w ⟨b, 0, none⟩ Tryd.underlying76 hj
  clear h hj
  go_enter Tryd.func56, Tryd.ntmps56
  go_wp2
  simp [bodyPost, results, Tryd.results56, go_sem]
theorem bd_ne : (78 : TypeId) ≠ 5 := by decide
theorem Bd.parts {B b : Nat} {l : List UInt8} {w : World} (h : Bd B b l w) : B ≤ b ∧ ∃ v, w.heap[b]? = some (.cells #[.pointer (some ⟨b, 0, none⟩), v] 78 (0, 0)) ∧ w.ownsRow B 5 1 v l.length (Lib.byteCells l) ∧ v.ownBlock ≠ some b := by
  obtain ⟨h1, v, h2, h3, h4⟩ := h
  rw [Lib.byteCells_length] at h3
  exact ⟨h1, v, h2, h3, h4⟩
set_option maxRecDepth 100000 in
set_option maxHeartbeats 2000000 in
theorem wbyte_any {B b : Nat} {l : List UInt8} {c : Int} {u : UInt8} (hu : c = (u.toNat : Int)) (hl : l.length < 1073741824) (w : World) (h : Bd B b l w) :
    Calls Tryd.prog 47 #[.pointer (some ⟨b, 0, none⟩), .int .u8 c] w fun e w' => e = .returned .nilIface ∧ Bd B b (l ++ [u]) w' ∧ Below B w w' := by
  have hc := copyCheck_any w h
  obtain ⟨hB, v, hb, ho, hne⟩ := h.parts
  obtain ⟨i0, hi, hz0, hz1, hz2⟩ := info_partsH (show (Tryd.prog.info? 5).map (fun i => (i.zero, i.size, i.bytes)) = some (some (.int .u8 0), 1, 1) by kernel_rfl)
  have hlt : b < w.heap.size := by
    by_cases hx : b < w.heap.size
    · exact hx
    · rw [Array.getElem?_eq_none (by omega)] at hb; cases hb
  have c1 : w.cell? ⟨b, 1, none⟩ = some v := by rw [Lib.cell_of_heap hb 1]; rfl
  have HB : Hid (B ≤ b ∧ w.heap[b]? = some (.cells #[.pointer (some ⟨b, 0, none⟩), v] 78 (0, 0)) ∧ w.ownsRow B 5 1 v l.length (Lib.byteCells l) ∧ v.ownBlock ≠ some b ∧ l.length < 1073741824 ∧ b < w.heap.size ∧ c = (u.toNat : Int)) := ⟨hB, hb, ho, hne, hl, hlt, hu⟩
  clear h hB hb ho hne hl hu
  go_enter Tryd.func47, Tryd.ntmps47
  go_wp2_with first | ((with_reducible refine hc.mono ?_); rintro e1 w1 ⟨rfl, hw1⟩; (rw [hw1]); (clear hw1 w1)) | (at_builtin; (refine wpList_append_lies _ rfl _ _ 30 rfl B 5 i0 (.int .u8 0) 1 1 Tryd.underlying30 hi hz0 hz1 hz2 rfl (by decide) v _ _ rfl (HB.out.2.2.1.alloc _) ⟨w.heap.size, 0, none⟩ 1 1 [.int .u8 c] rfl rfl (cell_oneH _ _ _) (fun u hu => by simp at hu; subst hu; rfl) (by decide) (by unfold maxLen; have := HB.out; omega) (by have := HB.out; omega) (by have := HB.out; simp; omega) _ rfl ?_); (intro g3' cap3 w3 hown' hgrow3 hblk hlt3); (have hb3 : w3.heap[b]? = some (.cells #[.pointer (some ⟨b, 0, none⟩), v] 78 (0, 0)) := (hgrow3.block b (by simp; omega) (fun e => HB.out.2.2.2.1 e.symm)).trans ((Lib.alloc_old _ _ _ HB.out.2.2.2.2.2.1).trans HB.out.2.1)); (have g3 : w3.cell? ⟨b, 1, none⟩ = some v := by rw [Lib.cell_of_heap hb3 1]; rfl); (have f3 := Lib.frozen_of_heap hb3 1); (have HS : Hid _ := Lib.BuilderAt.put HB.out.1 hb3 (bs' := Lib.byteCells (l ++ [u])) (by rw [Lib.byteCells_append, List.length_append, Lib.byteCells_length]; (have e : Lib.byteCells [u] = [Value.int .u8 c] := by rw [HB.out.2.2.2.2.2.2]; rfl); rw [e]; exact hown') bd_ne); (have HW : Hid (Below B w w3) := ((Below.refl B w).alloc (by have := HB.out; omega) _).grown hgrow3 (by have := HB.out; simp; omega) (fun k hk => (HB.out.2.2.1.lt k hk).1)); (clear hown' hgrow3 hblk hlt3 hb3))
  go_ret
  exact ⟨rfl, HS.out, HW.out.setCell HB.out.1 _⟩
set_option maxRecDepth 100000 in
set_option maxHeartbeats 2000000 in
theorem wstr_any {B b : Nat} {l : List UInt8} {s : ByteArray} (hl : l.length < 1073741824) (hs : s.size < 1073741824) (h0 : 0 < s.size) (w : World) (h : Bd B b l w) :
    Calls Tryd.prog 46 #[.pointer (some ⟨b, 0, none⟩), .string s] w fun e w' => e = .returned (.tuple #[.int .i64 s.size, .nilIface]) ∧ Bd B b (l ++ s.data.toList) w' ∧ Below B w w' := by
  have hc := copyCheck_any w h
  obtain ⟨hB, v, hb, ho, hne⟩ := h.parts
  obtain ⟨i0, hi, hz0, hz1, hz2⟩ := info_partsH (show (Tryd.prog.info? 5).map (fun i => (i.zero, i.size, i.bytes)) = some (some (.int .u8 0), 1, 1) by kernel_rfl)
  have hlt : b < w.heap.size := by
    by_cases hx : b < w.heap.size
    · exact hx
    · rw [Array.getElem?_eq_none (by omega)] at hb; cases hb
  have c1 : w.cell? ⟨b, 1, none⟩ = some v := by rw [Lib.cell_of_heap hb 1]; rfl
  have HB : Hid (B ≤ b ∧ w.heap[b]? = some (.cells #[.pointer (some ⟨b, 0, none⟩), v] 78 (0, 0)) ∧ w.ownsRow B 5 1 v l.length (Lib.byteCells l) ∧ v.ownBlock ≠ some b ∧ l.length < 1073741824 ∧ b < w.heap.size ∧ s.size < 1073741824 ∧ 0 < s.size) := ⟨hB, hb, ho, hne, hl, hlt, hs, h0⟩
  clear h hB hb ho hne hl hs h0
  go_enter Tryd.func46, Tryd.ntmps46
  go_wp2_with first | ((with_reducible refine hc.mono ?_); rintro e1 w1 ⟨rfl, hw1⟩; (rw [hw1]); (clear hw1 w1)) | (at_builtin; (refine Lib.wpList_append_own_string _ rfl _ _ 30 9 rfl B 5 i0 Tryd.underlying30 Tryd.underlying9 hi hz0 hz1 hz2 v _ _ rfl HB.out.2.2.1 s rfl (by unfold maxLen; have := HB.out; omega) (by have := HB.out; omega) (by have := HB.out; omega) ?_); (intro v' w3 hown' hgrow3 hnil3); (obtain ⟨g3', cap3, rfl, _, _⟩ := hown'.form (by have := HB.out; omega)); (have hb3 : w3.heap[b]? = some (.cells #[.pointer (some ⟨b, 0, none⟩), v] 78 (0, 0)) := (hgrow3.block b HB.out.2.2.2.2.2.1 (fun e => HB.out.2.2.2.1 e.symm)).trans HB.out.2.1); (have g3 : w3.cell? ⟨b, 1, none⟩ = some v := by rw [Lib.cell_of_heap hb3 1]; rfl); (have f3 := Lib.frozen_of_heap hb3 1); (have HS : Hid _ := Lib.BuilderAt.put HB.out.1 hb3 (bs' := Lib.byteCells (l ++ s.data.toList)) (by rw [Lib.byteCells_append, List.length_append, Lib.byteCells_length, Lib.byteCells_length, Array.length_toList]; exact hown') bd_ne); (have HW : Hid (Below B w w3) := (Below.refl B w).grown hgrow3 (by have := HB.out; omega) (fun k hk => (HB.out.2.2.1.lt k hk).1)); (clear hown' hgrow3 hnil3 hb3))
  simp [bodyPost, results, Tryd.results46, go_sem]
  exact ⟨HS.out, HW.out.setCell HB.out.1 _⟩
end Go.Proofs.YtidchaaahgnabaaDoor

namespace Go.Proofs.YtidchaaahgnabaaDoor
open Go.RowKit Go.Sort

/-- The digits that are written. -/
def digs : ByteArray := ⟨#[48, 49, 50, 51, 52, 53, 54, 55, 56, 57, 97, 98, 99, 100, 101, 102]⟩
def hd (k : Nat) : UInt8 := digs.data.toList.getD k 0
def hexB : List Int → List UInt8
  | [] => []
  | x :: X => hd (x / 16).toNat :: hd (x % 16).toNat :: hexB X
theorem hexB_snoc : ∀ (X : List Int) (x : Int), hexB (X ++ [x]) = hexB X ++ [hd (x / 16).toNat] ++ [hd (x % 16).toNat]
  | [], _ => rfl
  | y :: X, x => by simp [hexB, hexB_snoc X x]
theorem hexB_len : ∀ X : List Int, (hexB X).length = 2 * X.length
  | [] => rfl
  | _ :: X => by simp [hexB, hexB_len X]; omega
theorem and15 {x : Int} (h0 : 0 ≤ x) (h1 : x < 256) : bits .and .u8 x 15 = x % 16 := by
  have h : ∀ n : Fin 256, bits .and .u8 ((n.val : Nat) : Int) 15 = ((n.val : Nat) : Int) % 16 := by decide +kernel
  obtain ⟨n, rfl⟩ := Int.eq_ofNat_of_zero_le h0
  exact h ⟨n, by omega⟩
theorem take_one {X : List Int} {i : Nat} (h : i < X.length) : X.take (i + 1) = X.take i ++ [X.getD i 0] := by
  rw [List.take_add_one, List.getD, List.getElem?_eq_getElem h]; rfl
theorem at_string {s : ByteArray} {k : Nat} (h : k < s.size) (w : World) : (Instr.index 9 (.string s) (.int .u8 (k : Int))).run Tryd.prog w = .ok (.int .u8 ((s.data.toList.getD k 0).toNat : Int)) w := by
  have e := bt_get s k h
  unfold bt at e
  rw [← e]
  simp [run_index_string w 9 s .u8 (k : Int) Tryd.underlying9, h]
theorem dig_at {k : Nat} (h : k < 16) (w : World) : (Instr.index 9 (.string ⟨#[48, 49, 50, 51, 52, 53, 54, 55, 56, 57, 97, 98, 99, 100, 101, 102]⟩) (.int .u8 (k : Int))).run Tryd.prog w = .ok (.int .u8 ((hd k).toNat : Int)) w :=
  at_string (s := ⟨#[48, 49, 50, 51, 52, 53, 54, 55, 56, 57, 97, 98, 99, 100, 101, 102]⟩) h w
set_option maxRecDepth 100000 in
set_option maxHeartbeats 4000000 in
theorem written_any {a : Option Addr} {g o n c : Nat} {X : List Int} (hX : X.length = n) (hn : n < 268435456) (hb : ∀ i, 0 ≤ X.getD i 0 ∧ X.getD i 0 < 256) (ha : n ≠ 0 → a = some ⟨g, o, none⟩) (w : World) (hc : ∀ i, i < n → w.cell? ⟨g, o + i, none⟩ = some (.int .u8 (X.getD i 0))) :
    Calls Tryd.prog 31 #[.slice a n c] w fun e w' => e = .returned (.string ⟨([48, 120] ++ hexB X).toArray⟩) ∧ Below w.heap.size w w' := by
  have HX : Hid (X.length = n ∧ n < 268435456 ∧ (∀ i, 0 ≤ X.getD i 0 ∧ X.getD i 0 < 256) ∧ (n ≠ 0 → a = some ⟨g, o, none⟩) ∧ (∀ i, i < n → w.cell? ⟨g, o + i, none⟩ = some (.int .u8 (X.getD i 0)))) := ⟨hX, hn, hb, ha, hc⟩
  have n1 : (n : Int) < 268435456 := by omega
  obtain ⟨m, em⟩ : ∃ m : Nat, m = 2 + 2 * n := ⟨_, rfl⟩
  have em' : 2 + 2 * (n : Int) = (m : Int) := by omega
  have hgr := Tryd.Builder_Grow_fresh w.heap.size w.heap.size m (w.alloc (.cells #[.pointer none, .slice none 0 0] 78)) (Nat.le_refl _) (heap_alloc_new w _) (by simp) (by omega)
  clear hX hn hb ha hc em
  go_enter Tryd.func31, Tryd.ntmps31
  go_wp2_with fail
  with_reducible refine hgr.mono ?_
  rintro e1 w1 ⟨rfl, hbd, hbl⟩
  have h1 : Bd w.heap.size w.heap.size [] w1 := hbd
  have B1 : Below w.heap.size w w1 := ((Below.refl _ _).alloc (Nat.le_refl _) _).trans (hbl.mono (by simp))
  clear hgr hbd hbl
  go_wp2_with fail
  have hws := wstr_any (s := ⟨#[48, 120]⟩) (by decide) (by decide) (by decide) w1 h1
  with_reducible refine hws.mono ?_
  rintro e1 w2 ⟨rfl, h2, b2⟩
  have HB2 : Hid (Bd w.heap.size w.heap.size ([48, 120] ++ hexB (X.take 0)) w2 ∧ Below w.heap.size w w2) := ⟨h2, B1.trans b2⟩
  clear hws h1 h2 b2 B1
  go_wp2_with fail
  go_loopg [14] n (fun k iv wr => ∃ i : Nat, k = n - i ∧ i ≤ n ∧ iv = .int .i64 (i : Int) ∧ Bd w.heap.size w.heap.size ([48, 120] ++ hexB (X.take i)) wr ∧ Below w.heap.size w wr)
  case atStart => exact ⟨0, rfl, Nat.zero_le _, rfl, HB2.out⟩
  case round =>
    clear HB2
    obtain ⟨i, hk, hi, rfl, hB⟩ := hrel
    have HK : Hid (gk = n - i) := hk
    have HB : Hid (Bd w.heap.size w.heap.size ([48, 120] ++ hexB (X.take i)) wr ∧ Below w.heap.size w wr) := hB
    clear hk hB
    by_cases h8 : i < n
    · have hlt : (i : Int) < (n : Int) := by omega
      obtain rfl := HX.out.2.2.2.1 (by omega)
      have gx : wr.cell? ⟨g, o + i, none⟩ = some (.int .u8 (X.getD i 0)) := by
        have := HX.out.2.2.2.2 i h8
        rw [HB.out.2.cell (p := ⟨g, o + i, none⟩) (World.block_lt_of_cell? _ _ this)]
        exact this
      obtain ⟨x0, x1⟩ := HX.out.2.2.1 i
      have HT : Hid (X.take (i + 1) = X.take i ++ [X.getD i 0]) := take_one (by rw [HX.out.1]; exact h8)
      have HL : Hid (([48, 120] ++ hexB (X.take i)).length < 1073741822) := by
        have : ([48, 120] ++ hexB (X.take i)).length = 2 + 2 * min i X.length := by rw [List.length_append, hexB_len, List.length_take]; rfl
        have := HX.out; show _ < _; omega
      obtain ⟨x, Hx⟩ : ∃ x, Hid (x = X.getD i 0) := ⟨_, rfl⟩
      rw [← Hx.out] at gx x0 x1 HT
      obtain ⟨k1, ek1⟩ : ∃ k : Nat, k = (x / 16).toNat := ⟨_, rfl⟩
      obtain ⟨k2, ek2⟩ : ∃ k : Nat, k = (x % 16).toNat := ⟨_, rfl⟩
      have d1 : x / 16 = (k1 : Int) := by omega
      have d2 : bits .and .u8 x 15 = (k2 : Int) := by rw [and15 x0 x1]; omega
      have s1 : k1 < 16 := by omega
      have s2 : k2 < 16 := by omega
      have HE : Hid (k1 = (x / 16).toNat ∧ k2 = (x % 16).toNat) := ⟨ek1, ek2⟩
      have q1 := dig_at s1
      have q2 := dig_at s2
      clear ek1 ek2 s1 s2
      go_wp2_with fail
      have hw1 := wbyte_any (u := hd k1) rfl (by have := HL.out; omega) wr HB.out.1
      with_reducible refine hw1.mono ?_
      rintro e1 w3 ⟨rfl, h3, b3⟩
      have HB3 : Hid (Bd w.heap.size w.heap.size ([48, 120] ++ hexB (X.take i) ++ [hd k1]) w3 ∧ Below w.heap.size w w3) := ⟨h3, HB.out.2.trans b3⟩
      clear hw1 h3 b3 q1 gx
      go_wp2_with fail
      have hw2 := wbyte_any (u := hd k2) rfl (by have := HL.out; rw [List.length_append]; show _ + 1 < _; omega) w3 HB3.out.1
      with_reducible refine hw2.mono ?_
      rintro e1 w4 ⟨rfl, h4, b4⟩
      have HB4 : Hid (Bd w.heap.size w.heap.size ([48, 120] ++ hexB (X.take (i + 1))) w4 ∧ Below w.heap.size w w4) := by
        refine ⟨?_, HB3.out.2.trans b4⟩
        rw [HT.out, hexB_snoc, ← HE.out.1, ← HE.out.2]
        simpa using h4
      clear hw2 h4 b4 q2 HB3
      go_wp2
      go_roundg (n - (i + 1))
      case measure => have := HK.out; omega
      case rel => exact ⟨i + 1, rfl, by omega, by rw [Int.natCast_add]; rfl, HB4.out⟩
    · obtain rfl : i = n := by omega
      have hlt : ¬ ((i : Int) < (i : Int)) := by omega
      have hst := Tryd.Builder_String_any w.heap.size w.heap.size ([48, 120] ++ hexB (X.take i)) wr (.inr HB.out.1) HB.out.2.size
      have HE : Hid (X.take i = X) := List.take_of_length_le (by rw [HX.out.1]; exact Nat.le_refl _)
      rw [HE.out] at hst
      go_wp2_with fail
      with_reducible refine hst.mono ?_
      rintro e1 w9 ⟨rfl, b9⟩
      have HF : Hid (Below w.heap.size w w9) := HB.out.2.trans b9
      clear b9 hst
      go_wp2
      go_ret
      exact ⟨rfl, HF.out⟩
end Go.Proofs.YtidchaaahgnabaaDoor

namespace Go.Proofs.YtidchaaahgnabaaDoor
open Go.RowKit Go.Sort

/-- The half byte at the place i of these bytes, high halves first. -/
def halfN (L : List Int) (i : Nat) : Int := if i % 2 = 0 then L.getD (i / 2) 0 / 16 else L.getD (i / 2) 0 % 16
set_option maxRecDepth 100000 in
set_option maxHeartbeats 4000000 in
theorem half_any {L : List Int} {i : Nat} (hl : L.length = 32) (hb : ∀ i, 0 ≤ L.getD i 0 ∧ L.getD i 0 < 256) (hi : i < 64) (w : World) :
    Calls Tryd.prog 34 #[.agg (L.map (Value.int .u8)).toArray, .int .i64 (i : Int)] w fun e w' => e = .returned (.int .u8 (halfN L i)) ∧ Below w.heap.size w w' := by
  obtain ⟨M, HM⟩ : ∃ M, Hid (M = (L.map (Value.int .u8)).toArray) := ⟨_, rfl⟩
  rw [← HM.out]
  obtain ⟨k, ek⟩ : ∃ k : Nat, k = i / 2 := ⟨_, rfl⟩
  have d1 : (i : Int) / 2 = (k : Int) := by omega
  have k1 : k < 32 := by omega
  have i1 : (i : Int) < 64 := by omega
  obtain ⟨x0, x1⟩ := hb k
  have hc : (w.alloc (.cells M 36)).cell? ⟨w.heap.size, k, none⟩ = some (.int .u8 (L.getD k 0)) := by
    have e : M[k]? = some (.int .u8 (L.getD k 0)) := by
      rw [HM.out, List.getElem?_toArray, List.getElem?_map, List.getElem?_eq_getElem (by omega), List.getD, List.getElem?_eq_getElem (by omega)]; rfl
    simp [go_sem, e]
  have HH : Hid (halfN L i = if i % 2 = 0 then L.getD k 0 / 16 else L.getD k 0 % 16) := by rw [ek]; exact rfl
  have an := and15 x0 x1
  clear ek hb hl hi
  obtain ⟨x, Hx⟩ : ∃ x, Hid (x = L.getD k 0) := ⟨_, rfl⟩
  rw [← Hx.out] at hc x0 x1 HH an
  by_cases h2 : i % 2 = 0
  · have e2 : ((i : Int) % 2 == 0) = true := by rw [beq_iff_eq]; omega
    have HR : Hid (halfN L i = x / 16) := by rw [HH.out, if_pos h2]; exact rfl
    clear h2 HH
    go_enter Tryd.func34, Tryd.ntmps34
    go_wp2
    simp [bodyPost, results, Tryd.results34, go_sem, HR.out]
    exact (Below.refl _ _).alloc (Nat.le_refl _) _
  · have e2 : ((i : Int) % 2 == 0) = false := by rw [beq_eq_false_iff_ne]; omega
    have HR : Hid (halfN L i = x % 16) := by rw [HH.out, if_neg h2]; exact rfl
    clear h2 HH
    go_enter Tryd.func34, Tryd.ntmps34
    go_wp2
    simp [bodyPost, results, Tryd.results34, go_sem, HR.out]
    exact (Below.refl _ _).alloc (Nat.le_refl _) _
end Go.Proofs.YtidchaaahgnabaaDoor

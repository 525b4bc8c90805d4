import Derived.Test.YtidchaaahgnabaaDoorHxW
namespace Go.Proofs.YtidchaaahgnabaaDoor
open Go.RowKit Go.Sort

/-- The digits that are written. -/
def digs : ByteArray := ⟨#[48, 49, 50, 51, 52, 53, 54, 55, 56, 57, 97, 98, 99, 100, 101, 102]⟩
def hd (k : Nat) : UInt8 := digs.data.toList.getD k 0
def hexB : List Int → List UInt8
  | [] => []
  | x :: X => hd (x / 16).toNat :: hd (x % 16).toNat :: hexB X
theorem hexB_snoc : ∀ (X : List Int) (x : Int), hexB (X ++ [x]) = hexB X ++ [hd (x / 16).toNat] ++ [hd (x % 16).toNat]
  | [], _ => rfl
  | y :: X, x => by simp [hexB, hexB_snoc X x]
theorem hexB_len : ∀ X : List Int, (hexB X).length = 2 * X.length
  | [] => rfl
  | _ :: X => by simp [hexB, hexB_len X]; omega
theorem and15 {x : Int} (h0 : 0 ≤ x) (h1 : x < 256) : bits .and .u8 x 15 = x % 16 := by
  have h : ∀ n : Fin 256, bits .and .u8 ((n.val : Nat) : Int) 15 = ((n.val : Nat) : Int) % 16 := by decide +kernel
  obtain ⟨n, rfl⟩ := Int.eq_ofNat_of_zero_le h0
  exact h ⟨n, by omega⟩
theorem take_one {X : List Int} {i : Nat} (h : i < X.length) : X.take (i + 1) = X.take i ++ [X.getD i 0] := by
  rw [List.take_add_one, List.getD, List.getElem?_eq_getElem h]; rfl
theorem at_string {s : ByteArray} {k : Nat} (h : k < s.size) (w : World) : (Instr.index 9 (.string s) (.int .u8 (k : Int))).run Tryd.prog w = .ok (.int .u8 ((s.data.toList.getD k 0).toNat : Int)) w := by
  have e := bt_get s k h
  unfold bt at e
  rw [← e]
  simp [run_index_string w 9 s .u8 (k : Int) Tryd.underlying9, h]
theorem dig_at {k : Nat} (h : k < 16) (w : World) : (Instr.index 9 (.string ⟨#[48, 49, 50, 51, 52, 53, 54, 55, 56, 57, 97, 98, 99, 100, 101, 102]⟩) (.int .u8 (k : Int))).run Tryd.prog w = .ok (.int .u8 ((hd k).toNat : Int)) w :=
  at_string (s := ⟨#[48, 49, 50, 51, 52, 53, 54, 55, 56, 57, 97, 98, 99, 100, 101, 102]⟩) h w
set_option maxRecDepth 100000 in
set_option maxHeartbeats 4000000 in
theorem written_any {a : Option Addr} {g o n c : Nat} {X : List Int} (hX : X.length = n) (hn : n < 268435456) (hb : ∀ i, 0 ≤ X.getD i 0 ∧ X.getD i 0 < 256) (ha : n ≠ 0 → a = some ⟨g, o, none⟩) (w : World) (hc : ∀ i, i < n → w.cell? ⟨g, o + i, none⟩ = some (.int .u8 (X.getD i 0))) :
    Calls Tryd.prog 31 #[.slice a n c] w fun e w' => e = .returned (.string ⟨([48, 120] ++ hexB X).toArray⟩) ∧ Below w.heap.size w w' := by
  have HX : Hid (X.length = n ∧ n < 268435456 ∧ (∀ i, 0 ≤ X.getD i 0 ∧ X.getD i 0 < 256) ∧ (n ≠ 0 → a = some ⟨g, o, none⟩) ∧ (∀ i, i < n → w.cell? ⟨g, o + i, none⟩ = some (.int .u8 (X.getD i 0)))) := ⟨hX, hn, hb, ha, hc⟩
  have n1 : (n : Int) < 268435456 := by omega
  obtain ⟨m, em⟩ : ∃ m : Nat, m = 2 + 2 * n := ⟨_, rfl⟩
  have em' : 2 + 2 * (n : Int) = (m : Int) := by omega
  have hgr := Tryd.Builder_Grow_fresh w.heap.size w.heap.size m (w.alloc (.cells #[.pointer none, .slice none 0 0] 78)) (Nat.le_refl _) (heap_alloc_new w _) (by simp) (by omega)
  clear hX hn hb ha hc em
  go_enter Tryd.func31, Tryd.ntmps31
  go_wp2_with fail
  with_reducible refine hgr.mono ?_
  rintro e1 w1 ⟨rfl, hbd, hbl⟩
  have h1 : Bd w.heap.size w.heap.size [] w1 := hbd
  have B1 : Below w.heap.size w w1 := ((Below.refl _ _).alloc (Nat.le_refl _) _).trans (hbl.mono (by simp))
  clear hgr hbd hbl
  go_wp2_with fail
  have hws := wstr_any (s := ⟨#[48, 120]⟩) (by decide) (by decide) (by decide) w1 h1
  with_reducible refine hws.mono ?_
  rintro e1 w2 ⟨rfl, h2, b2⟩
  have HB2 : Hid (Bd w.heap.size w.heap.size ([48, 120] ++ hexB (X.take 0)) w2 ∧ Below w.heap.size w w2) := ⟨h2, B1.trans b2⟩
  clear hws h1 h2 b2 B1
  go_wp2_with fail
  go_loopg [14] n (fun k iv wr => ∃ i : Nat, k = n - i ∧ i ≤ n ∧ iv = .int .i64 (i : Int) ∧ Bd w.heap.size w.heap.size ([48, 120] ++ hexB (X.take i)) wr ∧ Below w.heap.size w wr)
  case atStart => exact ⟨0, rfl, Nat.zero_le _, rfl, HB2.out⟩
  case round =>
    clear HB2
    obtain ⟨i, hk, hi, rfl, hB⟩ := hrel
    have HK : Hid (gk = n - i) := hk
    have HB : Hid (Bd w.heap.size w.heap.size ([48, 120] ++ hexB (X.take i)) wr ∧ Below w.heap.size w wr) := hB
    clear hk hB
    by_cases h8 : i < n
    · have hlt : (i : Int) < (n : Int) := by omega
      obtain rfl := HX.out.2.2.2.1 (by omega)
      have gx : wr.cell? ⟨g, o + i, none⟩ = some (.int .u8 (X.getD i 0)) := by
        have := HX.out.2.2.2.2 i h8
        rw [HB.out.2.cell (p := ⟨g, o + i, none⟩) (World.block_lt_of_cell? _ _ this)]
        exact this
      obtain ⟨x0, x1⟩ := HX.out.2.2.1 i
      have HT : Hid (X.take (i + 1) = X.take i ++ [X.getD i 0]) := take_one (by rw [HX.out.1]; exact h8)
      have HL : Hid (([48, 120] ++ hexB (X.take i)).length < 1073741822) := by
        have : ([48, 120] ++ hexB (X.take i)).length = 2 + 2 * min i X.length := by rw [List.length_append, hexB_len, List.length_take]; rfl
        have := HX.out; show _ < _; omega
      obtain ⟨x, Hx⟩ : ∃ x, Hid (x = X.getD i 0) := ⟨_, rfl⟩
      rw [← Hx.out] at gx x0 x1 HT
      obtain ⟨k1, ek1⟩ : ∃ k : Nat, k = (x / 16).toNat := ⟨_, rfl⟩
      obtain ⟨k2, ek2⟩ : ∃ k : Nat, k = (x % 16).toNat := ⟨_, rfl⟩
      have d1 : x / 16 = (k1 : Int) := by omega
      have d2 : bits .and .u8 x 15 = (k2 : Int) := by rw [and15 x0 x1]; omega
      have s1 : k1 < 16 := by omega
      have s2 : k2 < 16 := by omega
      have HE : Hid (k1 = (x / 16).toNat ∧ k2 = (x % 16).toNat) := ⟨ek1, ek2⟩
      have q1 := dig_at s1
      have q2 := dig_at s2
      clear ek1 ek2 s1 s2
      go_wp2_with fail
      have hw1 := wbyte_any (u := hd k1) rfl (by have := HL.out; omega) wr HB.out.1
      with_reducible refine hw1.mono ?_
      rintro e1 w3 ⟨rfl, h3, b3⟩
      have HB3 : Hid (Bd w.heap.size w.heap.size ([48, 120] ++ hexB (X.take i) ++ [hd k1]) w3 ∧ Below w.heap.size w w3) := ⟨h3, HB.out.2.trans b3⟩
      clear hw1 h3 b3 q1 gx
      go_wp2_with fail
      have hw2 := wbyte_any (u := hd k2) rfl (by have := HL.out; rw [List.length_append]; show _ + 1 < _; omega) w3 HB3.out.1
      with_reducible refine hw2.mono ?_
      rintro e1 w4 ⟨rfl, h4, b4⟩
      have HB4 : Hid (Bd w.heap.size w.heap.size ([48, 120] ++ hexB (X.take (i + 1))) w4 ∧ Below w.heap.size w w4) := by
        refine ⟨?_, HB3.out.2.trans b4⟩
        rw [HT.out, hexB_snoc, ← HE.out.1, ← HE.out.2]
        simpa using h4
      clear hw2 h4 b4 q2 HB3
      go_wp2
      go_roundg (n - (i + 1))
      case measure => have := HK.out; omega
      case rel => exact ⟨i + 1, rfl, by omega, by rw [Int.natCast_add]; rfl, HB4.out⟩
    · obtain rfl : i = n := by omega
      have hlt : ¬ ((i : Int) < (i : Int)) := by omega
      have hst := Tryd.Builder_String_any w.heap.size w.heap.size ([48, 120] ++ hexB (X.take i)) wr (.inr HB.out.1) HB.out.2.size
      have HE : Hid (X.take i = X) := List.take_of_length_le (by rw [HX.out.1]; exact Nat.le_refl _)
      rw [HE.out] at hst
      go_wp2_with fail
      with_reducible refine hst.mono ?_
      rintro e1 w9 ⟨rfl, b9⟩
      have HF : Hid (Below w.heap.size w w9) := HB.out.2.trans b9
      clear b9 hst
      go_wp2
      go_ret
      exact ⟨rfl, HF.out⟩
end Go.Proofs.YtidchaaahgnabaaDoor

import Derived.Test.YtidchaaahgnabaaDoorHxD
import Derived.Laws.OwnMore
namespace Go.Proofs.YtidchaaahgnabaaDoor
open Go.RowKit Go.Sort

theorem info_byteH : (Tryd.prog.info? 5).map (fun i => (i.zero, i.size, i.bytes)) = some (some (.int .u8 0), 1, 1) := by kernel_rfl
/-- A slice of the call's own memory, of these bytes. -/
def OwnB (B : Nat) (W : World) (v : Value) (X : List Int) : Prop := W.ownsRow B 5 1 v X.length (X.map (Value.int .u8))
theorem OwnB.row {B : Nat} {W : World} {v : Value} {X : List Int} (h : OwnB B W v X) : W.ownsRow B 5 1 v X.length (X.map (Value.int .u8)) := h
theorem OwnB.nil (B : Nat) (W : World) : OwnB B W (.slice none 0 0) [] := ⟨rfl, .inl ⟨rfl, rfl⟩⟩
theorem grown_of_below {W W' : World} (h : Below W.heap.size W W') (row : Option Nat) : W.grownBy W' row := ⟨h.os, h.tape, h.output, h.size, fun k hk _ => h.block k hk⟩
theorem OwnB.keep {B : Nat} {W W' : World} {v : Value} {X : List Int} (h : OwnB B W v X) (hb : Below W.heap.size W W') : OwnB B W' v X :=
  World.ownsRow.kept h (grown_of_below hb Option.none) (by cases v.ownBlock <;> simp)
theorem OwnB.cell {B g n cap : Nat} {W : World} {X : List Int} (h : OwnB B W (.slice (some ⟨g, 0, none⟩) n cap) X) (hn : X.length = n) {i : Nat} (hi : i < n) : W.cell? ⟨g, i, none⟩ = some (.int .u8 (X.getD i 0)) := by
  subst hn
  rw [World.ownsRow.cellAt h i (by omega), List.getElem?_map, List.getElem?_eq_getElem hi, List.getD, List.getElem?_eq_getElem hi]
  rfl
theorem OwnB.free {B g n cap : Nat} {W : World} {X : List Int} (h : OwnB B W (.slice (some ⟨g, 0, none⟩) n cap) X) (hn : X.length = n) (i : Nat) : W.frozen? ⟨g, i, none⟩ = false := by
  subst hn
  exact World.ownsRow.frozenAt h i
theorem OwnB.set {B g n cap : Nat} {W : World} {X : List Int} (h : OwnB B W (.slice (some ⟨g, 0, none⟩) n cap) X) (hn : X.length = n) (i : Nat) (u : Int) : OwnB B (W.setCell ⟨g, i, none⟩ (.int .u8 u)) (.slice (some ⟨g, 0, none⟩) n cap) (X.set i u) ∧ W.grownBy (W.setCell ⟨g, i, none⟩ (.int .u8 u)) (some g) := by
  subst hn
  have := World.ownsRow.stored h i (.int .u8 u)
  refine ⟨?_, this.2⟩
  rw [OwnB, List.length_set, List.map_set]
  exact this.1
/-- Bytes of pairs of digits. -/
def pk (t : ByteArray) (n : Nat) : List Int := (List.range n).map fun i => 16 * dv (bt t (2 * i)) + dv (bt t (2 * i + 1))
theorem pk_len (t : ByteArray) (n : Nat) : (pk t n).length = n := by simp [pk]
/-- The first i are written. -/
def part (P X : List Int) (i : Nat) : List Int := P.take i ++ X.drop i
theorem part_len {P X : List Int} {i : Nat} (h : P.length = X.length) : (part P X i).length = X.length := by
  unfold part; rw [List.length_append, List.length_take, List.length_drop]; omega
theorem part_set {P X : List Int} {i : Nat} (h : P.length = X.length) (hi : i < X.length) : (part P X i).set i (P.getD i 0) = part P X (i + 1) := by
  unfold part
  refine List.ext_getElem? fun j => ?_
  have hp : (P.take i).length = i := by rw [List.length_take]; omega
  have hp' : (P.take (i + 1)).length = i + 1 := by rw [List.length_take]; omega
  by_cases hj : j = i
  · subst hj
    rw [List.getElem?_set_self (by rw [List.length_append, hp, List.length_drop]; omega), List.getElem?_append_left (by omega), List.getElem?_take, if_pos (by omega), List.getElem?_eq_getElem (by omega), List.getD, List.getElem?_eq_getElem (by omega)]
    rfl
  · rw [List.getElem?_set_ne (by omega)]
    by_cases hl : j < i
    · rw [List.getElem?_append_left (by omega), List.getElem?_append_left (by omega), List.getElem?_take, if_pos hl, List.getElem?_take, if_pos (by omega)]
    · rw [List.getElem?_append_right (by omega), List.getElem?_append_right (by omega), hp, hp', List.getElem?_drop, List.getElem?_drop]
      congr 1
      omega
theorem part_zero (P X : List Int) : part P X 0 = X := by simp [part]
theorem part_all {P X : List Int} (h : P.length = X.length) : part P X X.length = P := by
  unfold part
  rw [List.drop_length, List.append_nil, ← h, List.take_length]
theorem nib {x y : Int} (x0 : 0 ≤ x) (x1 : x ≤ 15) (y0 : 0 ≤ y) (y1 : y ≤ 15) : bits .or .u8 (x * 16) y = 16 * x + y := by
  have hx : x = 0 ∨ x = 1 ∨ x = 2 ∨ x = 3 ∨ x = 4 ∨ x = 5 ∨ x = 6 ∨ x = 7 ∨ x = 8 ∨ x = 9 ∨ x = 10 ∨ x = 11 ∨ x = 12 ∨ x = 13 ∨ x = 14 ∨ x = 15 := by omega
  have hy : y = 0 ∨ y = 1 ∨ y = 2 ∨ y = 3 ∨ y = 4 ∨ y = 5 ∨ y = 6 ∨ y = 7 ∨ y = 8 ∨ y = 9 ∨ y = 10 ∨ y = 11 ∨ y = 12 ∨ y = 13 ∨ y = 14 ∨ y = 15 := by omega
  rcases hx with rfl | rfl | rfl | rfl | rfl | rfl | rfl | rfl | rfl | rfl | rfl | rfl | rfl | rfl | rfl | rfl <;> rcases hy with rfl | rfl | rfl | rfl | rfl | rfl | rfl | rfl | rfl | rfl | rfl | rfl | rfl | rfl | rfl | rfl <;> decide +kernel

set_option maxRecDepth 100000 in
set_option maxHeartbeats 4000000 in
theorem read_any {B g n cap : Nat} {X : List Int} {t : ByteArray} (hX : X.length = n) (ht : t.size = 2 * n) (hn : n < 1073741824) (hd : dgs t) (w : World) (h : OwnB B w (.slice (some ⟨g, 0, none⟩) n cap) X) :
    Calls Tryd.prog 36 #[.slice (some ⟨g, 0, none⟩) n cap, .string t] w fun e w' => e = .returned (.tuple #[]) ∧ OwnB B w' (.slice (some ⟨g, 0, none⟩) n cap) (pk t n) ∧ w.grownBy w' (some g) := by
  have HA : Hid (dgs t ∧ X.length = n ∧ t.size = 2 * n ∧ n < 1073741824) := ⟨hd, hX, ht, hn⟩
  have HP : Hid (OwnB B w (.slice (some ⟨g, 0, none⟩) n cap) X) := h
  clear hd hX ht hn h
  go_enter Tryd.func36, Tryd.ntmps36
  go_wp2_with fail
  go_loopg [7] n (fun k iv wr => ∃ i : Nat, k = n - i ∧ i ≤ n ∧ iv = .int .i64 (i : Int) ∧ OwnB B wr (.slice (some ⟨g, 0, none⟩) n cap) (part (pk t n) X i) ∧ w.grownBy wr (some g))
  case atStart => exact ⟨0, rfl, Nat.zero_le _, rfl, by rw [part_zero]; exact HP.out, ⟨rfl, rfl, rfl, Nat.le_refl _, fun _ _ _ => rfl⟩⟩
  case round =>
    obtain ⟨i, hk, hi, rfl, hO, hG⟩ := hrel
    have HK : Hid (gk = n - i) := hk
    have HO : Hid (OwnB B wr (.slice (some ⟨g, 0, none⟩) n cap) (part (pk t n) X i) ∧ w.grownBy wr (some g)) := ⟨hO, hG⟩
    clear hk hO hG
    by_cases h8 : i = n
    · subst h8
      have hlt : ¬ i < i := by omega
      go_wp2
      simp [bodyPost, results, Tryd.results36, go_sem]
      refine ⟨?_, HO.out.2⟩
      have := HO.out.1
      have e := part_all (P := pk t i) (X := X) (by rw [pk_len, HA.out.2.1])
      rw [HA.out.2.1] at e
      rw [e] at this
      exact this
    · have hlt : i < n := by omega
      have ib : (i : Int) < 1073741824 := by have := HA.out.2.2.2; omega
      obtain ⟨k1, ek1⟩ : ∃ k : Nat, k = 2 * i := ⟨_, rfl⟩
      obtain ⟨k2, ek2⟩ : ∃ k : Nat, k = 2 * i + 1 := ⟨_, rfl⟩
      have s1 : k1 < t.size := by have := HA.out.2.2.1; omega
      have s2 : k2 < t.size := by have := HA.out.2.2.1; omega
      have e1 : 2 * (i : Int) = (k1 : Int) := by omega
      have e2 : (k1 : Int) + 1 = (k2 : Int) := by omega
      have b1 : (k1 : Int) < 2147483648 := by omega
      have hx1 := value_any (HA.out.1 k1 s1)
      have hx2 := value_any (HA.out.1 k2 s2)
      rw [← bt_get t k1 s1] at hx1
      rw [← bt_get t k2 s2] at hx2
      have hy1 : ∀ w, Calls Tryd.prog 51 #[.int .u8 ((t[k1]'s1).toNat : Int)] w fun e w' => e = .returned (.int .u8 (dv ((t[k1]'s1).toNat : Int))) ∧ Below w.heap.size w w' := fun w => (hx1 w).mono fun e w' ⟨h1, h2⟩ => ⟨h1, by rw [h2]; exact Below.refl _ _⟩
      have hy2 : ∀ w, Calls Tryd.prog 51 #[.int .u8 ((t[k2]'s2).toNat : Int)] w fun e w' => e = .returned (.int .u8 (dv ((t[k2]'s2).toNat : Int))) ∧ Below w.heap.size w w' := fun w => (hx2 w).mono fun e w' ⟨h1, h2⟩ => ⟨h1, by rw [h2]; exact Below.refl _ _⟩
      have HV : Hid (dv ((t[k1]'s1).toNat : Int) = dv (bt t (2 * i)) ∧ dv ((t[k2]'s2).toNat : Int) = dv (bt t (2 * i + 1))) := by
        rw [bt_get, bt_get, ek1, ek2]; exact ⟨rfl, rfl⟩
      have HN : Hid (bits .or .u8 (dv ((t[k1]'s1).toNat : Int) * 16) (dv ((t[k2]'s2).toNat : Int)) = 16 * dv (bt t (2 * i)) + dv (bt t (2 * i + 1))) := by
        rw [HV.out.1, HV.out.2]
        exact nib (by rw [← ek1]; exact HA.out.1 k1 s1) (dv_low _).2 (by rw [← ek2]; exact HA.out.1 k2 s2) (dv_low _).2
      obtain ⟨v0, v1⟩ : 0 ≤ dv ((t[k1]'s1).toNat : Int) ∧ dv ((t[k1]'s1).toNat : Int) ≤ 15 := by rw [bt_get]; exact ⟨HA.out.1 k1 s1, (dv_low _).2⟩
      obtain ⟨y0, y1⟩ : 0 ≤ dv ((t[k2]'s2).toNat : Int) ∧ dv ((t[k2]'s2).toNat : Int) ≤ 15 := by rw [bt_get]; exact ⟨HA.out.1 k2 s2, (dv_low _).2⟩
      clear hx1 hx2 ek1 ek2 HV
      obtain ⟨x1, HX1⟩ : ∃ x, Hid (x = dv ((t[k1]'s1).toNat : Int)) := ⟨_, rfl⟩
      obtain ⟨x2, HX2⟩ : ∃ x, Hid (x = dv ((t[k2]'s2).toNat : Int)) := ⟨_, rfl⟩
      rw [← HX1.out] at hy1 HN v0 v1
      rw [← HX2.out] at hy2 HN y0 y1
      go_wp2_with fail
      refine below_tail 16 (by kernel_rfl) (by kernel_rfl) ?_
      simp only [List.take_succ_cons, List.take_zero, List.drop_succ_cons, List.drop_zero]
      repeat
        first
          | go_big_quiet_skip
          | (go_big_quiet_want; go_big_quiet_op; go_big_quiet_on)
          | (go_big_quiet_want
             go_big_quiet_op
             apply Exists.intro
             refine ⟨fun p => ?_, ?_⟩
             · (first | (go_at_call 51; with_reducible exact Calls.regrown_of (hy1 _)) | (go_at_call 51; with_reducible exact Calls.regrown_of (hy2 _)))
             go_big_quiet_on)
      refine wpQuiet_nil ?_
      rintro w2 ⟨p, rfl⟩
      have hb := below_regrown wr p.d p.os
      have hO := HO.out.1.keep hb
      have hG := HO.out.2.trans (grown_of_below hb (some g))
      clear hb HO
      generalize Sort.grow (redrawn wr p.d) p.os = w2 at *
      have lp : (part (pk t n) X i).length = n := by rw [part_len (by rw [pk_len, HA.out.2.1]), HA.out.2.1]
      have cQ := hO.cell lp hlt
      have fQ := hO.free lp i
      have HS := hO.set lp i (16 * dv (bt t (2 * i)) + dv (bt t (2 * i + 1)))
      have ht : 16 * dv (bt t (2 * i)) + dv (bt t (2 * i + 1)) = (pk t n).getD i 0 := by
        simp [pk, List.getD, List.getElem?_range hlt]
      have HT : Hid (16 * dv (bt t (2 * i)) + dv (bt t (2 * i + 1)) = (pk t n).getD i 0) := ht
      clear ht
      rw [HT.out, part_set (by rw [pk_len, HA.out.2.1]) (by rw [HA.out.2.1]; exact hlt), ← HT.out, ← HN.out] at HS
      have HS' : Hid _ := HS
      clear HS hO lp
      go_wp2
      go_roundg (n - (i + 1))
      case measure => have := HK.out; omega
      case rel => exact ⟨i + 1, rfl, by omega, by rw [Int.natCast_add]; rfl, HS'.out.1, hG.trans HS'.out.2⟩
end Go.Proofs.YtidchaaahgnabaaDoor

import Derived.Test.YtidchaaahgnabaaDoorHxMix
import Derived.Test.YtidchaaahgnabaaDoorHxG
namespace Go.Proofs.YtidchaaahgnabaaDoor
open Go.RowKit Go.Sort

/-- These bytes lie in a block from its first cell on, and may be written. -/
def Cz (W : World) (g : Nat) (X : List Int) : Prop := ∀ i, i < X.length → W.cell? ⟨g, i, none⟩ = some (.int .u8 (X.getD i 0)) ∧ W.frozen? ⟨g, i, none⟩ = false
theorem Cz.keep {W W' : World} {g : Nat} {X : List Int} (h : Cz W g X) (hb : Below W.heap.size W W') : Cz W' g X := fun i hi => by
  obtain ⟨c, f⟩ := h i hi
  exact ⟨cellK hb c, by rw [hb.frozen (p := ⟨g, i, none⟩) (World.block_lt_of_cell? _ _ c)]; exact f⟩
theorem Cz.set {W : World} {g i : Nat} {X : List Int} (h : Cz W g X) (u : Int) : Cz (W.setCell ⟨g, i, none⟩ (.int .u8 u)) g (X.set i u) ∧ W.grownBy (W.setCell ⟨g, i, none⟩ (.int .u8 u)) (some g) := by
  refine ⟨fun j hj => ?_, ⟨rfl, rfl, rfl, by simp [World.setCell], fun k _ hk => Below.heap_setCell _ _ _ _ (fun e => hk (by simp [e]))⟩⟩
  rw [List.length_set] at hj
  obtain ⟨c, f⟩ := h j hj
  refine ⟨?_, by simpa using f⟩
  by_cases e : j = i
  · subst e
    rw [World.cell?_setCell_same' _ _ _ (by rw [c]; rfl), List.getD, List.getElem?_set_self hj]
    rfl
  · rw [World.cell?_setCell_other _ _ _ _ (fun x => e (by cases x; rfl)), c, List.getD, List.getD, List.getElem?_set_ne (by omega)]

set_option maxRecDepth 100000 in
set_option maxHeartbeats 4000000 in
theorem readC_any {g n cap : Nat} {X : List Int} {t : ByteArray} (hX : X.length = n) (ht : t.size = 2 * n) (hn : n < 1073741824) (hd : dgs t) (w : World) (h : Cz w g X) :
    Calls Tryd.prog 36 #[.slice (some ⟨g, 0, none⟩) n cap, .string t] w fun e w' => e = .returned (.tuple #[]) ∧ Cz w' g (pk t n) ∧ w.grownBy w' (some g) := by
  have HA : Hid (dgs t ∧ X.length = n ∧ t.size = 2 * n ∧ n < 1073741824) := ⟨hd, hX, ht, hn⟩
  have HP : Hid (Cz w g X) := h
  clear hd hX ht hn h
  go_enter Tryd.func36, Tryd.ntmps36
  go_wp2_with fail
  go_loopg [7] n (fun k iv wr => ∃ i : Nat, k = n - i ∧ i ≤ n ∧ iv = .int .i64 (i : Int) ∧ Cz wr g (part (pk t n) X i) ∧ w.grownBy wr (some g))
  case atStart => exact ⟨0, rfl, Nat.zero_le _, rfl, by rw [part_zero]; exact HP.out, ⟨rfl, rfl, rfl, Nat.le_refl _, fun _ _ _ => rfl⟩⟩
  case round =>
    obtain ⟨i, hk, hi, rfl, hO, hG⟩ := hrel
    have HK : Hid (gk = n - i) := hk
    have HO : Hid (Cz wr g (part (pk t n) X i) ∧ w.grownBy wr (some g)) := ⟨hO, hG⟩
    clear hk hO hG
    by_cases h8 : i = n
    · subst h8
      have hlt : ¬ i < i := by omega
      go_wp2
      simp [bodyPost, results, Tryd.results36, go_sem]
      refine ⟨?_, HO.out.2⟩
      have := HO.out.1
      have e := part_all (P := pk t i) (X := X) (by rw [pk_len, HA.out.2.1])
      rw [HA.out.2.1] at e
      rw [e] at this
      exact this
    · have hlt : i < n := by omega
      have ib : (i : Int) < 1073741824 := by have := HA.out.2.2.2; omega
      obtain ⟨k1, ek1⟩ : ∃ k : Nat, k = 2 * i := ⟨_, rfl⟩
      obtain ⟨k2, ek2⟩ : ∃ k : Nat, k = 2 * i + 1 := ⟨_, rfl⟩
      have s1 : k1 < t.size := by have := HA.out.2.2.1; omega
      have s2 : k2 < t.size := by have := HA.out.2.2.1; omega
      have e1 : 2 * (i : Int) = (k1 : Int) := by omega
      have e2 : (k1 : Int) + 1 = (k2 : Int) := by omega
      have b1 : (k1 : Int) < 2147483648 := by omega
      have hx1 := value_any (HA.out.1 k1 s1)
      have hx2 := value_any (HA.out.1 k2 s2)
      rw [← bt_get t k1 s1] at hx1
      rw [← bt_get t k2 s2] at hx2
      have hy1 : ∀ w, Calls Tryd.prog 51 #[.int .u8 ((t[k1]'s1).toNat : Int)] w fun e w' => e = .returned (.int .u8 (dv ((t[k1]'s1).toNat : Int))) ∧ Below w.heap.size w w' := fun w => (hx1 w).mono fun e w' ⟨h1, h2⟩ => ⟨h1, by rw [h2]; exact Below.refl _ _⟩
      have hy2 : ∀ w, Calls Tryd.prog 51 #[.int .u8 ((t[k2]'s2).toNat : Int)] w fun e w' => e = .returned (.int .u8 (dv ((t[k2]'s2).toNat : Int))) ∧ Below w.heap.size w w' := fun w => (hx2 w).mono fun e w' ⟨h1, h2⟩ => ⟨h1, by rw [h2]; exact Below.refl _ _⟩
      have HV : Hid (dv ((t[k1]'s1).toNat : Int) = dv (bt t (2 * i)) ∧ dv ((t[k2]'s2).toNat : Int) = dv (bt t (2 * i + 1))) := by
        rw [bt_get, bt_get, ek1, ek2]; exact ⟨rfl, rfl⟩
      have HN : Hid (bits .or .u8 (dv ((t[k1]'s1).toNat : Int) * 16) (dv ((t[k2]'s2).toNat : Int)) = 16 * dv (bt t (2 * i)) + dv (bt t (2 * i + 1))) := by
        rw [HV.out.1, HV.out.2]
        exact nib (by rw [← ek1]; exact HA.out.1 k1 s1) (dv_low _).2 (by rw [← ek2]; exact HA.out.1 k2 s2) (dv_low _).2
      obtain ⟨v0, v1⟩ : 0 ≤ dv ((t[k1]'s1).toNat : Int) ∧ dv ((t[k1]'s1).toNat : Int) ≤ 15 := by rw [bt_get]; exact ⟨HA.out.1 k1 s1, (dv_low _).2⟩
      obtain ⟨y0, y1⟩ : 0 ≤ dv ((t[k2]'s2).toNat : Int) ∧ dv ((t[k2]'s2).toNat : Int) ≤ 15 := by rw [bt_get]; exact ⟨HA.out.1 k2 s2, (dv_low _).2⟩
      clear hx1 hx2 ek1 ek2 HV
      obtain ⟨x1, HX1⟩ : ∃ x, Hid (x = dv ((t[k1]'s1).toNat : Int)) := ⟨_, rfl⟩
      obtain ⟨x2, HX2⟩ : ∃ x, Hid (x = dv ((t[k2]'s2).toNat : Int)) := ⟨_, rfl⟩
      rw [← HX1.out] at hy1 HN v0 v1
      rw [← HX2.out] at hy2 HN y0 y1
      go_wp2_with fail
      refine below_tail 16 (by kernel_rfl) (by kernel_rfl) ?_
      simp only [List.take_succ_cons, List.take_zero, List.drop_succ_cons, List.drop_zero]
      repeat
        first
          | go_big_quiet_skip
          | (go_big_quiet_want; go_big_quiet_op; go_big_quiet_on)
          | (go_big_quiet_want
             go_big_quiet_op
             apply Exists.intro
             refine ⟨fun p => ?_, ?_⟩
             · (first | (go_at_call 51; with_reducible exact Calls.regrown_of (hy1 _)) | (go_at_call 51; with_reducible exact Calls.regrown_of (hy2 _)))
             go_big_quiet_on)
      refine wpQuiet_nil ?_
      rintro w2 ⟨p, rfl⟩
      have hb := below_regrown wr p.d p.os
      have hO := HO.out.1.keep hb
      have hG := HO.out.2.trans (grown_of_below hb (some g))
      clear hb HO
      generalize Sort.grow (redrawn wr p.d) p.os = w2 at *
      have lp : (part (pk t n) X i).length = n := by rw [part_len (by rw [pk_len, HA.out.2.1]), HA.out.2.1]
      have cQ := (hO i (by omega)).1
      have fQ := (hO i (by omega)).2
      have HS := hO.set (i := i) (16 * dv (bt t (2 * i)) + dv (bt t (2 * i + 1)))
      have ht : 16 * dv (bt t (2 * i)) + dv (bt t (2 * i + 1)) = (pk t n).getD i 0 := by
        simp [pk, List.getD, List.getElem?_range hlt]
      have HT : Hid (16 * dv (bt t (2 * i)) + dv (bt t (2 * i + 1)) = (pk t n).getD i 0) := ht
      clear ht
      rw [HT.out, part_set (by rw [pk_len, HA.out.2.1]) (by rw [HA.out.2.1]; exact hlt), ← HT.out, ← HN.out] at HS
      have HS' : Hid _ := HS
      clear HS hO lp
      go_wp2
      go_roundg (n - (i + 1))
      case measure => have := HK.out; omega
      case rel => exact ⟨i + 1, rfl, by omega, by rw [Int.natCast_add]; rfl, HS'.out.1, hG.trans HS'.out.2⟩
end Go.Proofs.YtidchaaahgnabaaDoor

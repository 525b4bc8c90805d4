import Derived.Test.YtpgpciaafjodgaaGreatDoorKWrite
import Derived.Test.YtpgpciaafjodgaaGreatDoorKSqueeze
namespace Go.Proofs.YtpgpciaafjodgaaGreatDoor
open Go.RowKit Go.Sort

/-- The byte that begins the filling. -/
def fstB (k : Int) : BitVec 8 := if k = 1 then 6 else 1
/-- The digest of what a sponge has taken in. -/
def finL (k : Int) (L : List (BitVec 64)) (t : Nat) : List (BitVec 64) := perm (mixL (mixL L (t % 136) (fstB k)) 135 128)
set_option maxHeartbeats 1000000 in
theorem first_any {b : Nat} {k : Int} (w : World) (hk : w.cell? ⟨b, 0, none⟩ = some (.int .i64 k)) :
    Calls Tryz.prog 121 #[.pointer (some ⟨b, 0, none⟩)] w fun e w' => e = .returned (.int .u8 (Y (fstB k))) ∧ w' = w := by
  have y6 : Y 6 = 6 := by rw [Y_eq]; rfl
  have y1 : Y 1 = 1 := by rw [Y_eq]; rfl
  go_enter Tryz.func121, Tryz.ntmps121
  by_cases h : k = 1
  · subst h
    go_wp2
    go_ret
    exact ⟨by rw [fstB, if_pos rfl, y6]; rfl, rfl⟩
  · have h2 : (k == 1) = false := beq_eq_false_iff_ne.2 h
    go_wp2
    go_ret
    exact ⟨by rw [fstB, if_neg h, y1]; rfl, rfl⟩

theorem mix_n {b o p : Nat} {z : BitVec 64} {n : Int} {x : BitVec 8} (e : Y x = n) (hp : p < 200) (w : World) (hz : w.cell? ⟨b, o + p / 8, none⟩ = some (.int .u64 (V z))) (hf : w.frozen? ⟨b, o + p / 8, none⟩ = false) :
    Calls Tryz.prog 119 #[.pointer (some ⟨b, o, none⟩), .int .i64 p, .int .u8 n] w fun e w' => e = .returned (.tuple #[]) ∧ w' = w.drew.setCell ⟨b, o + p / 8, none⟩ (.int .u64 (V (z ^^^ up x (p % 8 * 8)))) := by
  subst e; exact mix_any x hp w hz hf
theorem Arr.mix {W : World} {b : Nat} {L : List (BitVec 64)} (h : Arr W b L) {p : Nat} (hp : p < 200) (x : BitVec 8) : Arr (W.setCell ⟨b, 0 + p / 8, none⟩ (.int .u64 (V (L.getD (p / 8) 0 ^^^ up x (p % 8 * 8))))) b (mixL L p x) := by
  rw [Nat.zero_add]; exact h.set (p / 8) (by omega) _

set_option maxRecDepth 100000 in
set_option maxHeartbeats 4000000 in
theorem ssum_any {b : Nat} {k : Int} {L : List (BitVec 64)} {t : Nat} (tb : t < 1073741824) (w : World) (hS : Sp w b k L t) (ht : Tab w 2 turnsN) (hm : Lns w 1 marksN) :
    Calls Tryz.prog 93 #[.pointer (some ⟨b, 0, none⟩)] w fun e w' => e = .returned (.agg (byts (hashL (finL k L t))).toArray) ∧ Below w.heap.size w w' := by
  have HH : Hid (Tab w 2 turnsN ∧ Lns w 1 marksN) := ⟨ht, hm⟩
  have HS : Hid (Sp w b k L t) := hS
  have lb : b < w.heap.size := hS.lt
  have HM : Hid ((lanes L).length = 25) := by rw [lanes_len]; exact hS.1
  have sz := lanes_size hS.1
  have oc := one_lanes L
  have HL : Hid (L.length = 25) := hS.1
  have TB : Hid (t < 1073741824 ∧ b < w.heap.size) := ⟨tb, lb⟩
  clear ht hm hS lb
  go_enter Tryz.func93, Tryz.ntmps93
  go_wp2_with (first | refine wpList_load_mid rfl 148 _ rfl b 1 rfl (lanes L) _ ((HS.out.alloc _).range) Tryz.underlying148 rfl (by rw [HM.out]; kernel_rfl) ?_ | (refine wpList_store_mid rfl 148 _ _ rfl (w.heap.size + 1) 0 _ rfl rfl (by rw [sz]; exact (fresh_arr (by simp)).there) (by rw [sz]; kernel_rfl) oc ?_; refine wpList_world (fun W => Below w.heap.size w W ∧ Hsh W w.heap.size (List.replicate 32 0) ∧ Arr W (w.heap.size + 1) L) ⟨below_setCells (by omega) _ 0 _ (((Below.refl _ _).alloc (Nat.le_refl _) _).alloc (by simp) _), ((Hsh.zeros _ rfl).alloc _).otherCells (by omega) _, (fresh_arr (by simp)).stored HL.out⟩ ?_; intro W2 hh; have HY : Hid (Below w.heap.size w W2 ∧ Hsh W2 w.heap.size (List.replicate 32 0) ∧ Arr W2 (w.heap.size + 1) L) := hh; clear hh))
  simp only [Act.put]
  have NN : Hid (w.heap.size + 1 ≠ w.heap.size ∧ w.heap.size ≤ w.heap.size + 1) := ⟨by omega, by omega⟩
  generalize w.heap.size + 1 = n1 at *
  have g26 : W2.cell? ⟨b, 26, none⟩ = some (.int .i64 (t : Int)) := by rw [HY.out.1.cell (p := ⟨b, 26, none⟩) TB.out.2]; exact HS.out.2.2.2.1
  have g0 : W2.cell? ⟨b, 0, none⟩ = some (.int .i64 k) := by rw [HY.out.1.cell (p := ⟨b, 0, none⟩) TB.out.2]; exact HS.out.2.1
  have G0 : Hid (W2.cell? ⟨b, 0, none⟩ = some (.int .i64 k)) := g0
  clear g0 sz oc HM
  have t1 : (t : Int) < 1073741824 := by have := TB.out.1; omega
  have P0 : Hid (∀ W, W = W2.drew → Calls Tryz.prog 121 #[.pointer (some ⟨b, 0, none⟩)] W fun e w' => e = .returned (.int .u8 (Y (fstB k))) ∧ w' = W) := by rintro W rfl; exact first_any _ G0.out
  refine region_tail 7 (by kernel_rfl) (by kernel_rfl) ?_
  simp only [List.take_succ_cons, List.take_zero, List.drop_succ_cons, List.drop_zero]
  repeat (first | go_big_quiet_skip | (go_big_quiet_want; go_big_quiet_op; first | go_big_quiet_on | (with_reducible refine ⟨_, P0.out _ rfl, ?_⟩; go_big_quiet_on)))
  refine wpQuiet_nil ?_
  go_wp2_with fail
  rw [show (t : Int) % 136 = ((t % 136 : Nat) : Int) by omega]
  refine (mix_any (b := n1) (o := 0) (p := t % 136) (z := L.getD (t % 136 / 8) 0) (fstB k) (by omega) _ (by rw [Nat.zero_add]; exact HY.out.2.2.2.1 _ (by rw [HL.out]; omega)) (by rw [Nat.zero_add]; exact HY.out.2.2.2.2 _ (by omega))).mono ?_
  rintro e w3 ⟨rfl, h3⟩
  obtain ⟨A, kA⟩ : ∃ A, A = mixL L (t % 136) (fstB k) := ⟨_, rfl⟩
  have H3 : Hid (Below w.heap.size w w3 ∧ Hsh w3 w.heap.size (List.replicate 32 0) ∧ Arr w3 n1 A) := by
    rw [h3, kA]
    exact ⟨HY.out.1.drew.drew.setCell NN.out.2 _, HY.out.2.1.drew.drew.other NN.out.1 _, HY.out.2.2.drew.drew.mix (by omega) _⟩
  clear h3 HY g26 G0 P0 t1
  go_wp2_with fail
  have y128 : Y 128 = 128 := by rw [Y_eq]; rfl
  have lA : A.length = 25 := H3.out.2.2.1
  refine (mix_n (b := n1) (o := 0) (p := 135) (z := A.getD (135 / 8) 0) y128 (by decide) _ (H3.out.2.2.2.1 (135 / 8) (by omega)) (H3.out.2.2.2.2 (135 / 8) (by decide))).mono ?_
  rintro e w4 ⟨rfl, h4⟩
  obtain ⟨C, kC⟩ : ∃ C, C = mixL A 135 128 := ⟨_, rfl⟩
  have H4 : Hid (Below w.heap.size w w4 ∧ Hsh w4 w.heap.size (List.replicate 32 0) ∧ Arr w4 n1 C) := by
    rw [h4, kC]
    exact ⟨H3.out.1.drew.setCell NN.out.2 _, H3.out.2.1.drew.other NN.out.1 _, H3.out.2.2.drew.mix (by decide) _⟩
  have FIN : Hid (finL k L t = perm C) := by rw [kC, kA]; exact rfl
  clear h4 H3 kA kC y128 lA
  have lC : Hid (C.length = 25) := H4.out.2.2.1
  have HM : Hid ((lanes C).length = 25) := by rw [lanes_len]; exact lC.out
  go_wp2_with (refine wpList_load_mid rfl 148 _ rfl n1 0 rfl (lanes C) _ (H4.out.2.2.2.1.range) Tryz.underlying148 rfl (by rw [HM.out]; kernel_rfl) ?_)
  refine (perm_any lC.out _ (HH.out.1.keep H4.out.1) (HH.out.2.keep H4.out.1)).mono ?_
  rintro e w5 ⟨rfl, hb⟩
  have H5 : Hid (Below w.heap.size w w5 ∧ Hsh w5 w.heap.size (List.replicate 32 0)) := ⟨H4.out.1.trans (hb.mono H4.out.1.size), H4.out.2.1.keep hb⟩
  clear hb H4
  go_wp2_with fail
  refine (squeeze_any (perm_len lC.out) _).mono ?_
  rintro e w6 ⟨rfl, hb⟩
  have H6 : Hid (Below w.heap.size w w6 ∧ Hsh w6 w.heap.size (List.replicate 32 0)) := ⟨H5.out.1.trans (hb.mono H5.out.1.size), H5.out.2.keep hb⟩
  clear hb H5
  rw [← FIN.out]
  have lN : (byts (hashL (finL k L t))).length = 32 := by rw [byts_len, hashL_len]
  have oc := one_byts (hashL (finL k L t))
  generalize hN : byts (hashL (finL k L t)) = N at *
  have EN : Hid (byts (hashL (finL k L t)) = N) := hN
  clear hN
  have sz : (N.toArray).size = 32 := by simp [lN]
  have tr : w6.there w.heap.size 0 (N.toArray).size := by rw [sz]; exact H6.out.2.there
  have HN : Hid (N.length = 32) := lN
  clear lN
  go_wp2_with (refine wpList_store_mid rfl 26 _ _ rfl w.heap.size 0 _ rfl rfl tr (by rw [sz]; kernel_rfl) oc ?_)
  have ld := run_loadVar_mid (P := Tryz.prog) (w6.setCells w.heap.size 0 N) w.heap.size 0 26 N _ (World.rangeAt_setCells_same _ _ _ _ (by simpa using tr)) Tryz.underlying26 rfl (by rw [HN.out]; kernel_rfl)
  refine bodyPost_ret (v := .agg N.toArray) ?_ rfl ⟨by rw [EN.out], below_setCells (Nat.le_refl _) N 0 w6 H6.out.1⟩
  simp [results, Tryz.results93, Act.put, asAddr, ld]

end Go.Proofs.YtpgpciaafjodgaaGreatDoor

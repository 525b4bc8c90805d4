import Derived.Test.YtdehcohfcbopkaaBmA
import Derived.Test.YtdehcohfcbopkaaQTail
/- The document's filters. -/
namespace Go.Proofs.Ytdehcohfcbopkaa
open Go.RowKit Go.Sort

set_option maxRecDepth 100000 in
set_option maxHeartbeats 4000000 in
theorem rset_any {F : List (BitVec 8)} {x : Int} (hl : F.length = 256) (h0 : 0 ≤ x) (h1 : x < 2048) (w : World) :
    Calls Try.prog 14 #[.agg (byts F).toArray, .int .i64 x] w fun e w' => e = .returned (.agg (byts (setF F x.toNat)).toArray) ∧ Below w.heap.size w w' := by
  obtain ⟨j, rfl⟩ := Int.eq_ofNat_of_zero_le h0
  rw [Int.toNat_natCast]
  obtain ⟨N, hN⟩ : ∃ N, N = byts (setF F j) := ⟨_, rfl⟩
  rw [← hN]
  have lS : (setF F j).length = 256 := by rw [setF_len]; exact hl
  have LN : Hid (N = byts (setF F j) ∧ N.length = 256) := ⟨hN, by rw [hN, byts_len]; exact lS⟩
  have ic := size_bloom lS
  have ia := size_bloomA lS
  have oc := one_byts (setF F j)
  rw [← hN] at ic ia oc
  have sz : N.toArray.size = 256 := by simp [LN.out.2]
  have HJ : Hid (j < 2048 ∧ F.length = 256) := ⟨show j < 2048 by omega, hl⟩
  have hj1 : (j : Int) < 2048 := h1
  have e0 : (255 - (j : Int) / 8).toNat = atF j := by rw [atF]; omega
  have l1 : ((atF j : Nat) : Int) < 256 := by have := atF_lt j; omega
  have c1 : w.heap.size + 1 ≠ w.heap.size := by omega
  have YO : Hid (∀ y, bits .or .u8 (Y y) (2 ^ (j % 8) % 256) = Y (y ||| wtF j)) := fun y => by rw [Y_one (show j % 8 < 8 by omega), Y_or]; rfl
  have NX : Hid (∀ W xv, xv = Y (F.getD (atF j) 0) → Below w.heap.size w W → Blm W w.heap.size F → Blm W (w.heap.size + 1) zF → Below w.heap.size w (W.setCell ⟨w.heap.size, atF j, none⟩ (.int .u8 (bits .or .u8 xv (2 ^ (j % 8) % 256)))) ∧ (W.setCell ⟨w.heap.size, atF j, none⟩ (.int .u8 (bits .or .u8 xv (2 ^ (j % 8) % 256)))).rangeAt w.heap.size 0 N ∧ (W.setCell ⟨w.heap.size, atF j, none⟩ (.int .u8 (bits .or .u8 xv (2 ^ (j % 8) % 256)))).there (w.heap.size + 1) 0 N.toArray.size) := fun W xv e B hF hR => by
    subst e
    rw [YO.out, sz, LN.out.1]
    exact ⟨B.setCell (Nat.le_refl _) _, (hF.set (atF j) (atF_lt j) _).range, (hR.other (by omega) _).there⟩
  clear h0 h1 hl hN lS YO
  go_enter Try.func14, Try.ntmps14
  go_wp2_with (first | (refine wpList_alloc_zero rfl 24 rfl _ zero_bloom ?_; refine wpList_world (fun W => Below w.heap.size w W ∧ Blm W w.heap.size F ∧ Blm W (w.heap.size + 1) zF) ⟨((Below.refl _ _).alloc (Nat.le_refl _) _).alloc (by simp) _, (Blm.new HJ.out.2 _ rfl).alloc _, Blm.new zF_len _ (by simp)⟩ ?_; rintro W ⟨B, hF, hR⟩; have gx := hF.2.1 (atF j) (atF_lt j); have fx := hF.2.2 (atF j) (atF_lt j); obtain ⟨xv, hxv⟩ : ∃ xv, xv = Y (F.getD (atF j) 0) := ⟨_, rfl⟩; obtain ⟨n1, n2, n3⟩ := NX.out W xv hxv B hF hR; rw [← hxv] at gx; have M1 : Hid (Below w.heap.size w (W.setCell ⟨w.heap.size, atF j, none⟩ (.int .u8 (bits .or .u8 xv (2 ^ (j % 8) % 256))))) := n1; clear B hF hR hxv n1 NX) | refine wpList_load_mid rfl 24 _ rfl w.heap.size 0 rfl N _ n2 Try.underlying24 rfl ic ?_ | refine wpList_store_mid rfl 24 _ _ rfl (w.heap.size + 1) 0 _ rfl rfl n3 ia oc ?_)
  have ld := run_loadVar_mid (P := Try.prog) _ (w.heap.size + 1) 0 24 N _ (World.rangeAt_setCells_same _ _ _ _ (by simpa using n3)) Try.underlying24 rfl ic
  refine bodyPost_ret (v := .agg N.toArray) ?_ rfl ⟨rfl, below_setCells (by omega) N 0 _ M1.out⟩
  simp [results, Try.results14, Act.put, asAddr, ld]

end Go.Proofs.Ytdehcohfcbopkaa

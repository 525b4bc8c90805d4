import Derived.Test.YtdehcohfcbopkaaBmN
/- The document's bit. -/
namespace Go.Proofs.Ytdehcohfcbopkaa
open Go.RowKit Go.Sort

theorem rbit_byte (x : BitVec 8) {k : Nat} (hk : k < 8) : ((Y x / 2 ^ k).tmod 2 == 1) = x.getLsbD k := by
  have h : ∀ n : Fin 256, ∀ k : Fin 8, ((((n.val : Nat) : Int) / 2 ^ k.val).tmod 2 == 1) = (BitVec.ofNat 8 n.val).getLsbD k.val := by decide +kernel
  have := h ⟨x.toNat, x.isLt⟩ ⟨k, hk⟩
  rw [Y_eq, this]
  simp
set_option maxRecDepth 100000 in
set_option maxHeartbeats 4000000 in
theorem rbit_any {F : List (BitVec 8)} {x : Int} (hF : F.length = 256) (h0 : 0 ≤ x) (h1 : x < 2048) (w : World) :
    Calls Try.prog 13 #[.agg (byts F).toArray, .int .i64 x] w fun e w' => e = .returned (.bool (tF F x.toNat)) ∧ Below w.heap.size w w' := by
  obtain ⟨j, rfl⟩ := Int.eq_ofNat_of_zero_le h0
  rw [Int.toNat_natCast]
  have HJ : Hid (j < 2048 ∧ F.length = 256) := ⟨show j < 2048 by omega, hF⟩
  have hj1 : (j : Int) < 2048 := h1
  have e0 : (255 - (j : Int) / 8).toNat = atF j := by rw [atF]; omega
  have l1 : ((atF j : Nat) : Int) < 256 := by have := atF_lt j; omega
  have BB : Hid (((Y (F.getD (atF j) 0) / 2 ^ (j % 8)).tmod 2 == 1) = tF F j) := rbit_byte _ (by omega)
  have yl := Y_lo (F.getD (atF j) 0)
  have yh := Y_hi (F.getD (atF j) 0)
  clear h0 h1 hF
  go_enter Try.func13, Try.ntmps13
  have gx : ∀ t, (w.alloc (.cells (byts F).toArray t)).cell? ⟨w.heap.size, atF j, none⟩ = some (.int .u8 (Y (F.getD (atF j) 0))) := fun t => (Blm.new HJ.out.2 t rfl).2.1 (atF j) (atF_lt j)
  generalize Y (F.getD (atF j) 0) = y at *
  go_wp2
  rw [BB.out]
  simp [bodyPost, results, Try.results13, go_sem]
  exact (Below.refl _ _).alloc (Nat.le_refl _) _
end Go.Proofs.Ytdehcohfcbopkaa

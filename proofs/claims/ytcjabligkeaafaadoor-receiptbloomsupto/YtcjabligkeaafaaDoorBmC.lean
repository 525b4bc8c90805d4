import Derived.Test.YtcjabligkeaafaaDoorBmA
import Derived.Test.YtcjabligkeaafaaDoorQTail
import Derived.Test.YtcjabligkeaafaaDoorBmN
/- BloomMakes. -/
namespace Go.Proofs.YtcjabligkeaafaaDoor.S
open Go.RowKit Go.Sort

/-- '==' of two filters. -/
theorem eq_bloom {X Zs : List (BitVec 8)} (hx : X.length = 256) (hy : Zs.length = 256) (w : World) : (Op.equalIn 10000 28 (.agg (byts X).toArray) (.agg (byts Zs).toArray)).run Tryd.prog w = .ok (decide (X = Zs)) w := by
  rw [show (10000 : Nat) = 9999 + 1 from rfl, Op.equalIn]
  have tz : (sizeOf 5).run Tryd.prog w = .ok 1 w := by have := Tryd.sizeOf5; simp [go_sem, this]
  simp only [Sem.run_bind, run_underlying Tryd.underlying28, Result.andThen_ok, tz]
  simp only [Std.Legacy.Range.forIn_eq_forIn_range', Std.Legacy.Range.size, Nat.sub_zero, Nat.add_sub_cancel, Nat.div_one]
  have h := eq_loop8 (X := X) (Zs := Zs) w 256 0 (by omega) (by omega)
  rw [h, same8_iff hx hy]
  by_cases e : X = Zs <;> simp [e]

end Go.Proofs.YtcjabligkeaafaaDoor.S

/- isSet. -/
namespace Go.Proofs.YtcjabligkeaafaaDoor.S
open Go.RowKit Go.Sort

theorem set_byte (x : BitVec 8) {k : Nat} (hk : k < 8) : (bits .and .u8 (Y x) (Y (1#8 <<< k)) != 0) = x.getLsbD k := by
  have h : ∀ n : Fin 256, ∀ k : Fin 8, (bits .and .u8 ((n.val : Nat) : Int) (((1#8 <<< k.val).toNat : Nat) : Int) != 0) = (BitVec.ofNat 8 n.val).getLsbD k.val := by decide +kernel
  have := h ⟨x.toNat, x.isLt⟩ ⟨k, hk⟩
  rw [Y_eq, Y_eq, this]
  simp

set_option maxRecDepth 100000 in
theorem isSet_any {b : Nat} {F : List (BitVec 8)} {x : Int} (h0 : 0 ≤ x) (h1 : x < 2048) (w : World) (hF : Blm w b F) :
    Calls Tryd.prog 10 #[.pointer (some ⟨b, 0, none⟩), .int .i64 x] w fun e w' => e = .returned (.bool (tF F x.toNat)) ∧ Below w.heap.size w w' := by
  obtain ⟨j, rfl⟩ := Int.eq_ofNat_of_zero_le h0
  rw [Int.toNat_natCast]
  have HJ : Hid (j < 2048) := show j < 2048 by omega
  clear h0 h1
  go_enter Tryd.func10, Tryd.ntmps10
  go_wp2_with fail
  refine (spot_any HJ.out _).mono ?_
  rintro e w1 ⟨rfl, n, rfl⟩
  have B1 : Hid (Below w.heap.size w (w.drewN n)) := ⟨rfl, rfl, rfl, Nat.le_refl _, fun _ _ => rfl⟩
  have c1 : (w.drewN n).cell? ⟨b, atF j, none⟩ = some (.int .u8 (Y (F.getD (atF j) 0))) := hF.2.1 (atF j) (atF_lt j)
  generalize w.drewN n = w1 at *
  have l1 : ((atF j : Nat) : Int) < 256 := by have := atF_lt j; omega
  have BB : Hid ((bits .and .u8 (Y (F.getD (atF j) 0)) (Y (wtF j)) != 0) = tF F j) := set_byte _ (by omega)
  clear hF
  generalize Y (F.getD (atF j) 0) = y at *
  generalize Y (wtF j) = z at *
  go_wp2
  rw [BB.out]
  simp [bodyPost, results, Tryd.results10, go_sem]
  exact B1.out

end Go.Proofs.YtcjabligkeaafaaDoor.S

import Derived.Test.YteoddmncfkmhgaaUbC
/- Layer 1: Get of the document and roomy, of any list. -/
namespace Go.Proofs.Yteoddmncfkmhgaa
open Go.RowKit Go.Sort

set_option maxHeartbeats 4000000 in
theorem rget_any {A : List Int} {a : Option Addr} {bb ob cb : Nat} (hZ : Az a bb ob A) (hA : Byts A) (hl : A.length ≤ 32) (w : World) (ha : ∀ i, i < A.length → w.cell? ⟨bb, ob + i, none⟩ = some (.int .u8 (A.getD i 0))) :
    Calls Try.prog 11 #[.slice a A.length cb] w fun e w' => e = .returned (.tuple #[.agg #[.int .u64 (l0 (sufN A A.length)), .int .u64 (l1 (sufN A A.length)), .int .u64 (l2 (sufN A A.length)), .int .u64 (l3 (sufN A A.length))], .int .i64 0]) ∧ Below w.heap.size w w' := by
  have hl' : (A.length : Int) ≤ 32 := by omega
  have HZ : Hid (Az a bb ob A) := hZ
  clear hZ
  have hb0 := build_zero
  go_enter Try.func11, Try.ntmps11
  go_wp2_with fail
  refine wp_world (fun W => Below w.heap.size w W ∧ Blank W w.heap.size ∧ Row W (w.heap.size + 1) [l0 0, l1 0, l2 0, l3 0] ∧ Loose W (w.heap.size + 1) 4) ⟨?_, (Blank.new rfl).alloc _, ?_, ?_⟩ ?_
  · repeat (first | with_reducible exact Below.refl _ _ | with_reducible refine Below.alloc ?_ (by first | omega | (simp; done) | (simp; omega)) _)
  · obtain ⟨z0, z1, z2, z3⟩ := zero_limbs
    rw [z0, z1, z2, z3]
    exact (Blank.new (by simp)).1
  · exact (Blank.new (by simp)).2
  rintro W ⟨B, hR, hX, lX⟩
  have c1 : w.heap.size + 1 ≠ w.heap.size := by omega
  have o1 : w.heap.size ≤ w.heap.size + 1 := by omega
  generalize w.heap.size + 1 = bx at *
  have HA : Hid (Byts A ∧ ∀ i, i < A.length → w.cell? ⟨bb, ob + i, none⟩ = some (.int .u8 (A.getD i 0))) := ⟨hA, ha⟩
  clear hA ha
  go_loopg [5] A.length (fun k iv wr => ∃ i : Nat, k = A.length - i ∧ i ≤ A.length ∧ iv = .int .i64 i ∧ Below w.heap.size w wr ∧ Blank wr w.heap.size ∧ Row wr bx [l0 (gpreN A i), l1 (gpreN A i), l2 (gpreN A i), l3 (gpreN A i)] ∧ Loose wr bx 4)
  case atStart => exact ⟨0, rfl, Nat.zero_le _, rfl, B, hR, hX, lX⟩
  case round =>
    clear B hR hX lX
    obtain ⟨i, hk, hi, rfl, B, hR, hX, lX⟩ := hrel
    have HK : Hid (gk = A.length - i) := hk
    clear hk
    by_cases h8 : i = A.length
    · subst h8
      rw [pre_all] at hX
      have gX := hX.all4; have gR := hR.1.all4; have fR := hR.2.all4
      go_wp2
      simp [bodyPost, results, Try.results11, go_sem, gR]
      exact below_set4 B (Nat.le_refl _) _ _ _ _
    · have hi' : (i : Int) < A.length := by omega
      have hi2 : (i : Int) < 32 := by omega
      obtain rfl := HZ.out.cons (by omega)
      have lt : bb < w.heap.size := World.block_lt_of_cell? w _ (HA.out.2 0 (by omega))
      obtain ⟨K, hK⟩ : ∃ K : Nat, A.length - 1 - i = K := ⟨_, rfl⟩
      have eK : (A.length : Int) - 1 - (i : Int) = (K : Int) := by omega
      have K1 : (K : Int) < 32 := by omega
      have e1 : ((K : Int) / 8).toNat = K / 8 := by omega
      have gy : wr.cell? ⟨bb, ob + i, none⟩ = some (.int .u8 (A.getD i 0)) := by rw [B.cell (p := ⟨bb, ob + i, none⟩) lt]; exact HA.out.2 _ (by omega)
      have gx := hX (K / 8) (by simp; omega)
      have fx := lX (K / 8) (by omega)
      obtain ⟨b0, b1⟩ := HA.out.1 i
      obtain ⟨nX, t, ht⟩ := gpreN_bound HA.out.1 hl hi
      obtain ⟨y0, z0, z1, ev⟩ := limb_top (k := K) (by omega) nX (by rw [ht, show A.length - i = K + 1 by omega]) b0 b1
      have EV : Hid ([l0 (gpreN A (i + 1)), l1 (gpreN A (i + 1)), l2 (gpreN A (i + 1)), l3 (gpreN A (i + 1))] = [l0 (gpreN A i), l1 (gpreN A i), l2 (gpreN A i), l3 (gpreN A i)].set (K / 8) ([l0 (gpreN A i), l1 (gpreN A i), l2 (gpreN A i), l3 (gpreN A i)].getD (K / 8) 0 + A.getD i 0 * 2 ^ (8 * (K % 8)))) := by rw [gpreN, hK]; exact ev
      clear ev ht nX
      generalize hy : [l0 (gpreN A i), l1 (gpreN A i), l2 (gpreN A i), l3 (gpreN A i)].getD (K / 8) 0 = y at *
      generalize hv : A.getD i 0 = v at *
      clear hy hv
      have wz : IntKind.u64.wrap (v * 2 ^ (8 * (K % 8))) = v * 2 ^ (8 * (K % 8)) := by rw [IntKind.wrap_u64]; omega
      have wy : IntKind.u64.wrap (y + v * 2 ^ (8 * (K % 8))) = y + v * 2 ^ (8 * (K % 8)) := by rw [IntKind.wrap_u64]; omega
      go_wp2
      go_region
      go_wp2
      go_roundg (A.length - (i + 1))
      case measure => have := HK.out; omega
      case rel =>
        refine ⟨i + 1, rfl, by omega, by go_num, B.drew.setCell o1 _, hR.drew.set c1 _, ?_, lX.drew.set _ _⟩
        rw [EV.out]
        exact Row.set hX.drew (K / 8) (by simp; omega) _

set_option maxHeartbeats 2000000 in
theorem roomy_any {A : List Int} {a : Option Addr} {bb ob cb : Nat} (hZ : Az a bb ob A) (hl : A.length ≤ 140737488355328) (w : World) (ha : ∀ i, i < A.length → w.cell? ⟨bb, ob + i, none⟩ = some (.int .u8 (A.getD i 0))) :
    Calls Try.prog 9 #[.slice a A.length cb] w fun e w' => ∃ g, e = .returned (.slice (some ⟨g, 0, none⟩) A.length (A.length + 9)) ∧ w.heap.size ≤ g ∧ Bts w' g (A ++ List.replicate 9 165) ∧ Below w.heap.size w w' := by
  have hl' : (A.length : Int) ≤ 140737488355328 := by omega
  have HZ : Hid (Az a bb ob A) := hZ
  clear hZ
  obtain ⟨i0, hi, hz0, hz1, hz2⟩ := info_parts info_byte
  go_enter Try.func9, Try.ntmps9
  go_wp2_with (first
    | (at_make; refine wpList_make_full _ rfl _ _ 25 rfl w.heap.size 5 i0 (.int .u8 0) 1 Try.underlying25 hi hz0 hz1 .i64 .i64 _ _ (A.length + 9) rfl rfl (by omega) (by omega) (by rw [hz2]; omega) (by unfold maxLen; omega) (Nat.le_refl _) ?_; intro w1 hown hgrow; obtain ⟨hrow, B1, hsrc⟩ := made_facts ha hown hgrow)
    | (refine wpList_copy_splice rfl _ _ 25 25 rfl 5 Try.underlying25 (by kernel_rfl) _ _ (A.length + 9) (A.length + 9) A.length cb rfl rfl w.heap.size 0 (List.replicate (A.length + 9) (Value.int .u8 0)) 5 hrow (A.map (Value.int .u8)) (by simp) (fun h => ⟨rfl, _, HZ.out.cons (by simpa using h), hsrc⟩) (by simp) (fun v hv => by obtain ⟨x, _, rfl⟩ := List.mem_map.1 hv; rfl) w.heap.size w B1 (Nat.le_refl _) ?_; intro w2 hrow2 B2; rw [splice_bytes] at hrow2; clear hown hgrow hrow B1 hsrc))
  have hB : Bts w2 w.heap.size (A ++ List.replicate 9 0) := bts_of_row hrow2.out
  have o1 : w.heap.size ≤ w.heap.size := Nat.le_refl _
  clear hrow2 ha hi hz0 hz1 hz2
  go_loopg [4] 9 (fun k iv wr => ∃ i : Nat, k = 9 - i ∧ i ≤ 9 ∧ iv = .int .i64 ((A.length : Int) + i) ∧ Below w.heap.size w wr ∧ Bts wr w.heap.size (A ++ (List.replicate i 165 ++ List.replicate (9 - i) 0)))
  case atStart => exact ⟨0, rfl, by decide, by simp, B2, by simpa using hB⟩
  case round =>
    clear B2 hB
    obtain ⟨i, hk, hi, rfl, B, hB⟩ := hrel
    have HK : Hid (gk = 9 - i) := hk
    clear hk
    by_cases h8 : i = 9
    · subst h8
      go_wp2
      go_ret
      exact ⟨w.heap.size, rfl, Nat.le_refl _, by simpa using hB, B⟩
    · have hi' : (i : Int) < 9 := by omega
      have e1 : ((A.length : Int) + (i : Int)).toNat = A.length + i := by omega
      have gx := hB.1 (A.length + i) (by simp; omega)
      have fx := hB.2 (A.length + i) (by simp; omega)
      generalize (A ++ (List.replicate i 165 ++ List.replicate (9 - i) 0)).getD (A.length + i) 0 = x at *
      go_wp2
      go_roundg (9 - (i + 1))
      case measure => have := HK.out; omega
      case rel =>
        refine ⟨i + 1, rfl, by omega, by go_num, B.setCell o1 _, ?_⟩
        rw [← room_set A (show i < 9 by omega)]
        exact hB.set (A.length + i) (by simp; omega) 165

end Go.Proofs.Yteoddmncfkmhgaa

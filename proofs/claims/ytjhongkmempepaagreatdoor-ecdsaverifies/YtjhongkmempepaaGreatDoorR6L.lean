import Derived.Test.YtjhongkmempepaaGreatDoorR6R
import Derived.Test.YtjhongkmempepaaGreatDoorESW
import Derived.Test.YtjhongkmempepaaGreatDoorCPnt
import Derived.Test.YtjhongkmempepaaGreatDoorCFp
import Derived.Test.YtjhongkmempepaaGreatDoorEVer
import Derived.Test.YtjhongkmempepaaGreatDoorFRoot
import Derived.Test.YtjhongkmempepaaGreatDoorCCols
import Derived.Test.YtjhongkmempepaaGreatDoorCLift
import Derived.Test.YtjhongkmempepaaGreatDoorEChk
namespace Go.Proofs.YtjhongkmempepaaGreatDoor
open Go.RowKit Go.Sort

set_option maxRecDepth 100000 in
set_option maxHeartbeats 8000000 in
theorem erecs_walk {r s X Y e0 : Int} {o j : Bool} {A : List Int} (hl : A.length = 32) (RC : Hid (∀ w, Mds w → Cols w → Calls Tryz.prog 11 #[.agg ((A.map fun z => Value.int .u8 z).toArray), .agg #[.int .u64 (l0 r), .int .u64 (l1 r), .int .u64 (l2 r), .int .u64 (l3 r), .int .u64 (l0 s), .int .u64 (l1 s), .int .u64 (l2 s), .int .u64 (l3 s), .bool o]] w fun e w' => e = .returned (.tuple #[.agg #[.int .u64 (l0 X), .int .u64 (l1 X), .int .u64 (l2 X), .int .u64 (l3 X), .int .u64 (l0 Y), .int .u64 (l1 Y), .int .u64 (l2 Y), .int .u64 (l3 Y), .bool j], .int .i64 e0]) ∧ Below w.heap.size w w')) (RR : Hid (∀ w, Calls Tryz.prog 12 #[.agg ((A.map fun z => Value.int .u8 z).toArray), .agg #[.int .u64 (l0 r), .int .u64 (l1 r), .int .u64 (l2 r), .int .u64 (l3 r), .int .u64 (l0 s), .int .u64 (l1 s), .int .u64 (l2 s), .int .u64 (l3 s), .bool o]] w fun e w' => e = .returned (.tuple #[.agg #[.int .u64 (l0 X), .int .u64 (l1 X), .int .u64 (l2 X), .int .u64 (l3 X), .int .u64 (l0 Y), .int .u64 (l1 Y), .int .u64 (l2 Y), .int .u64 (l3 Y), .bool j], .int .i64 e0]) ∧ Below w.heap.size w w')) (NU : Hid (∀ w, Calls Tryz.prog 8 #[.int .i64 e0] w fun e w' => e = .returned (.int .i64 e0) ∧ Below w.heap.size w w')) (E : ∀ w, (Op.equalIn 10000 37 (.agg #[.int .u64 (l0 X), .int .u64 (l1 X), .int .u64 (l2 X), .int .u64 (l3 X), .int .u64 (l0 Y), .int .u64 (l1 Y), .int .u64 (l2 Y), .int .u64 (l3 Y), .bool j]) (.agg #[.int .u64 (l0 X), .int .u64 (l1 X), .int .u64 (l2 X), .int .u64 (l3 X), .int .u64 (l0 Y), .int .u64 (l1 Y), .int .u64 (l2 Y), .int .u64 (l3 Y), .bool j])).run Tryz.prog w = .ok true w) (w : World) (hm : Mds w) (hc : Cols w) :
    Calls Tryz.prog 5 #[hashV A, .agg #[.int .u64 (l0 r), .int .u64 (l1 r), .int .u64 (l2 r), .int .u64 (l3 r), .int .u64 (l0 s), .int .u64 (l1 s), .int .u64 (l2 s), .int .u64 (l3 s), .bool o]] w fun e w' => e = .returned (.bool true) ∧ Below w.heap.size w w' := by
  unfold hashV at *
  have ra : ((w.alloc (.cells ((A.map fun z => Value.int .u8 z).toArray) 26)).alloc (.cells #[.int .u64 (l0 r), .int .u64 (l1 r), .int .u64 (l2 r), .int .u64 (l3 r), .int .u64 (l0 s), .int .u64 (l1 s), .int .u64 (l2 s), .int .u64 (l3 s), .bool o] 28)).rangeAt w.heap.size 0 (A.map fun z => Value.int .u8 z) := ((HAt.new hl rfl).alloc _).2
  go_enter Tryz.func5, Tryz.ntmps5
  go_wp2_with (refine wpList_load_mid rfl 26 _ rfl w.heap.size 0 rfl (A.map fun z => Value.int .u8 z) _ ra Tryz.underlying26 rfl (by rw [List.length_map, hl]; kernel_rfl) ?_)
  refine calls_world (fun W => Below w.heap.size w W ∧ Mds W ∧ Cols W ∧ HAt W w.heap.size A ∧ Pnt W (w.heap.size + 1) r s o) ⟨by repeat (first | with_reducible exact Below.refl _ _ | with_reducible refine Below.alloc ?_ (by first | omega | (simp; done) | (simp; omega)) _), (hm.alloc _).alloc _, (Cols.alloc hc _).alloc _, (HAt.new hl rfl).alloc _, Pnt.new (by simp)⟩ ?_
  clear ra
  rintro W ⟨B, hD, hO, hY, hS⟩
  generalize w.heap.size + 1 = bs at *
  with_reducible refine (RC.out _ hD hO).mono ?_
  rintro e w1 ⟨rfl, hb⟩
  replace B := B.trans (hb.mono B.size)
  replace hD := hD.keep hb; replace hO := hO.keep hb; replace hY := hY.keep hb; replace hS := hS.keep hb
  clear hb W
  have ghS := fun o => (hS.alloc o).cells
  have ra := fun a => (hY.alloc a).2
  go_wp2_with (refine wpList_load_mid rfl 26 _ rfl w.heap.size 0 rfl (A.map fun z => Value.int .u8 z) _ (ra _) Tryz.underlying26 rfl (by rw [List.length_map, hl]; kernel_rfl) ?_)
  refine calls_world (fun W => Below w.heap.size w W ∧ Mds W ∧ Cols W ∧ HAt W w.heap.size A ∧ Pnt W bs r s o ∧ Pnt W w1.heap.size X Y j) ⟨B.alloc B.size _, hD.alloc _, hO.alloc _, hY.alloc _, hS.alloc _, Pnt.new rfl⟩ ?_
  clear B hD hO hY hS ghS
  rintro W ⟨B, hD, hO, hY, hS, hQ⟩
  generalize w1.heap.size = bq at *
  clear ra
  with_reducible refine (RR.out _).mono ?_
  rintro e w2 ⟨rfl, hb⟩
  replace B := B.trans (hb.mono B.size)
  replace hD := hD.keep hb; replace hO := hO.keep hb; replace hY := hY.keep hb; replace hS := hS.keep hb; replace hQ := hQ.keep hb
  clear hb W
  have ghQ := fun o => (hQ.alloc o).cells
  go_wp2_with fail
  refine calls_world (fun W => Below w.heap.size w W ∧ Mds W ∧ Cols W ∧ HAt W w.heap.size A ∧ Pnt W bs r s o ∧ Pnt W bq X Y j ∧ Pnt W w2.heap.size X Y j) ⟨B.alloc B.size _, hD.alloc _, hO.alloc _, hY.alloc _, hS.alloc _, hQ.alloc _, Pnt.new rfl⟩ ?_
  clear B hD hO hY hS hQ ghQ
  rintro W ⟨B, hD, hO, hY, hS, hQ, hT⟩
  generalize w2.heap.size = bt at *
  with_reducible refine (NU.out _).mono ?_
  rintro e w9 ⟨rfl, hb⟩
  replace B := B.trans (hb.mono B.size)
  clear hb hD hO hY hS hQ hT W
  go_wp2
  simp [bodyPost, results, Tryz.results5, go_sem]
  exact B

set_option maxRecDepth 100000 in
set_option maxHeartbeats 8000000 in
theorem evers_walk {x y r s e0 : Int} {i o v : Bool} {A : List Int} (hl : A.length = 32) (VE : Hid (∀ w, Mds w → Cols w → Calls Tryz.prog 9 #[.agg #[.int .u64 (l0 x), .int .u64 (l1 x), .int .u64 (l2 x), .int .u64 (l3 x), .int .u64 (l0 y), .int .u64 (l1 y), .int .u64 (l2 y), .int .u64 (l3 y), .bool i], .agg ((A.map fun z => Value.int .u8 z).toArray), .agg #[.int .u64 (l0 r), .int .u64 (l1 r), .int .u64 (l2 r), .int .u64 (l3 r), .int .u64 (l0 s), .int .u64 (l1 s), .int .u64 (l2 s), .int .u64 (l3 s), .bool o]] w fun e w' => e = .returned (.tuple #[.bool v, .int .i64 e0]) ∧ Below w.heap.size w w')) (VR : Hid (∀ w, Calls Tryz.prog 10 #[.agg #[.int .u64 (l0 x), .int .u64 (l1 x), .int .u64 (l2 x), .int .u64 (l3 x), .int .u64 (l0 y), .int .u64 (l1 y), .int .u64 (l2 y), .int .u64 (l3 y), .bool i], .agg ((A.map fun z => Value.int .u8 z).toArray), .agg #[.int .u64 (l0 r), .int .u64 (l1 r), .int .u64 (l2 r), .int .u64 (l3 r), .int .u64 (l0 s), .int .u64 (l1 s), .int .u64 (l2 s), .int .u64 (l3 s), .bool o]] w fun e w' => e = .returned (.tuple #[.bool v, .int .i64 e0]) ∧ Below w.heap.size w w')) (NU : Hid (∀ w, Calls Tryz.prog 8 #[.int .i64 e0] w fun e w' => e = .returned (.int .i64 e0) ∧ Below w.heap.size w w')) (w : World) (hm : Mds w) (hc : Cols w) :
    Calls Tryz.prog 4 #[.agg #[.int .u64 (l0 x), .int .u64 (l1 x), .int .u64 (l2 x), .int .u64 (l3 x), .int .u64 (l0 y), .int .u64 (l1 y), .int .u64 (l2 y), .int .u64 (l3 y), .bool i], hashV A, .agg #[.int .u64 (l0 r), .int .u64 (l1 r), .int .u64 (l2 r), .int .u64 (l3 r), .int .u64 (l0 s), .int .u64 (l1 s), .int .u64 (l2 s), .int .u64 (l3 s), .bool o]] w fun e w' => e = .returned (.bool true) ∧ Below w.heap.size w w' := by
  unfold hashV at *
  have ra : (((w.alloc (.cells #[.int .u64 (l0 x), .int .u64 (l1 x), .int .u64 (l2 x), .int .u64 (l3 x), .int .u64 (l0 y), .int .u64 (l1 y), .int .u64 (l2 y), .int .u64 (l3 y), .bool i] 37)).alloc (.cells ((A.map fun z => Value.int .u8 z).toArray) 26)).alloc (.cells #[.int .u64 (l0 r), .int .u64 (l1 r), .int .u64 (l2 r), .int .u64 (l3 r), .int .u64 (l0 s), .int .u64 (l1 s), .int .u64 (l2 s), .int .u64 (l3 s), .bool o] 28)).rangeAt (w.heap.size + 1) 0 (A.map fun z => Value.int .u8 z) := ((HAt.new hl (by simp)).alloc _).2
  go_enter Tryz.func4, Tryz.ntmps4
  go_wp2_with (refine wpList_load_mid rfl 26 _ rfl (w.heap.size + 1) 0 rfl (A.map fun z => Value.int .u8 z) _ ra Tryz.underlying26 rfl (by rw [List.length_map, hl]; kernel_rfl) ?_)
  refine calls_world (fun W => Below w.heap.size w W ∧ Mds W ∧ Cols W ∧ Pnt W w.heap.size x y i ∧ HAt W (w.heap.size + 1) A ∧ Pnt W (w.heap.size + 1 + 1) r s o) ⟨by repeat (first | with_reducible exact Below.refl _ _ | with_reducible refine Below.alloc ?_ (by first | omega | (simp; done) | (simp; omega)) _), ((hm.alloc _).alloc _).alloc _, ((Cols.alloc hc _).alloc _).alloc _, ((Pnt.new rfl).alloc _).alloc _, (HAt.new hl (by simp)).alloc _, Pnt.new (by simp)⟩ ?_
  clear ra
  rintro W ⟨B, hD, hO, hX, hY, hS⟩
  generalize w.heap.size + 1 + 1 = bs at *
  generalize w.heap.size + 1 = bd at *
  with_reducible refine (VE.out _ hD hO).mono ?_
  rintro e w1 ⟨rfl, hb⟩
  replace B := B.trans (hb.mono B.size)
  replace hD := hD.keep hb; replace hO := hO.keep hb; replace hX := hX.keep hb; replace hY := hY.keep hb; replace hS := hS.keep hb
  clear hb W
  have ghX := hX.cells
  have ghS := hS.cells
  have ra := hY.2
  go_wp2_with (refine wpList_load_mid rfl 26 _ rfl bd 0 rfl (A.map fun z => Value.int .u8 z) _ ra Tryz.underlying26 rfl (by rw [List.length_map, hl]; kernel_rfl) ?_)
  refine calls_world (fun W => Below w.heap.size w W ∧ Mds W ∧ Cols W ∧ Pnt W w.heap.size x y i ∧ HAt W bd A ∧ Pnt W bs r s o) ⟨B, hD, hO, hX, hY, hS⟩ ?_
  clear B hD hO hX hY hS ghX ghS
  rintro W ⟨B, hD, hO, hX, hY, hS⟩
  clear ra
  with_reducible refine (VR.out _).mono ?_
  rintro e w2 ⟨rfl, hb⟩
  replace B := B.trans (hb.mono B.size)
  replace hD := hD.keep hb; replace hO := hO.keep hb; replace hX := hX.keep hb; replace hY := hY.keep hb; replace hS := hS.keep hb
  clear hb W
  go_wp2_with fail
  refine calls_world (fun W => Below w.heap.size w W ∧ Mds W ∧ Cols W ∧ Pnt W w.heap.size x y i ∧ HAt W bd A ∧ Pnt W bs r s o) ⟨B, hD, hO, hX, hY, hS⟩ ?_
  clear B hD hO hX hY hS 
  rintro W ⟨B, hD, hO, hX, hY, hS⟩
  with_reducible refine (NU.out _).mono ?_
  rintro e w9 ⟨rfl, hb⟩
  replace B := B.trans (hb.mono B.size)
  clear hb hD hO hX hY hS W
  go_wp2
  simp [bodyPost, results, Tryz.results4, go_sem]
  exact B
end Go.Proofs.YtjhongkmempepaaGreatDoor

namespace Go.Proofs.YtjhongkmempepaaGreatDoor
open Go.RowKit Go.Sort
set_option maxRecDepth 100000 in
set_option maxHeartbeats 4000000 in
theorem eq_sig_any {x y x' y' : Int} {i j : Bool} (hx : Num x) (hy : Num y) (hx' : Num x') (hy' : Num y') (w : World) :
    (Op.equalIn 10000 28 (.agg #[.int .u64 (l0 x), .int .u64 (l1 x), .int .u64 (l2 x), .int .u64 (l3 x), .int .u64 (l0 y), .int .u64 (l1 y), .int .u64 (l2 y), .int .u64 (l3 y), .bool i]) (.agg #[.int .u64 (l0 x'), .int .u64 (l1 x'), .int .u64 (l2 x'), .int .u64 (l3 x'), .int .u64 (l0 y'), .int .u64 (l1 y'), .int .u64 (l2 y'), .int .u64 (l3 y'), .bool j])).run Tryz.prog w = .ok (decide (x = x') && (decide (y = y') && (i == j))) w := by
  have e1 := eq_num9 hx hx'
  have e2 := eq_num9 hy hy'
  have tf : (Tryz.prog.fieldsOf 28) = #[{ name := "R", type := 24, offset := 0, embedded := false, tag := "", pkgPath := "", byteOffset := 0 }, { name := "S", type := 24, offset := 4, embedded := false, tag := "", pkgPath := "", byteOffset := 32 }, { name := "Odd", type := 4, offset := 8, embedded := false, tag := "", pkgPath := "", byteOffset := 64 }] := by
    unfold Program.fieldsOf; rw [Tryz.underlying28]
  rw [show (10000 : Nat) = 9999 + 1 from rfl, run_equalIn_struct w 9999 _ _ _ (by rw [tf]; exact Tryz.underlying28) (by kernel_rfl), tf]
  have tu := Tryz.underlying4
  have ta := Tryz.isAgg4
  have tz := Tryz.sizeOf4
  have ta' := Tryz.isAgg24
  have tz' := Tryz.sizeOf24
  simp only [Op.eqFields]
  go_simp
  by_cases h1 : x = x' <;> by_cases h2 : y = y' <;> by_cases h3 : i = j <;> simp [h1, h2, h3]

end Go.Proofs.YtjhongkmempepaaGreatDoor

namespace Go.Proofs.YtjhongkmempepaaGreatDoor
open Go.RowKit Go.Sort

theorem es_zero : ∀ w, (Op.equalIn 10000 28 (.agg #[.int .u64 (l0 0), .int .u64 (l1 0), .int .u64 (l2 0), .int .u64 (l3 0), .int .u64 (l0 0), .int .u64 (l1 0), .int .u64 (l2 0), .int .u64 (l3 0), .bool false]) (.agg #[.int .u64 0, .int .u64 0, .int .u64 0, .int .u64 0, .int .u64 0, .int .u64 0, .int .u64 0, .int .u64 0, .bool false])).run Tryz.prog w = .ok true w := fun w => by
  have := eq_sig_any (x := 0) (y := 0) (x' := 0) (y' := 0) (i := false) (j := false) ⟨by decide, by decide⟩ ⟨by decide, by decide⟩ ⟨by decide, by decide⟩ ⟨by decide, by decide⟩ w
  obtain ⟨z0, z1, z2, z3⟩ := zero_limbs
  rw [z0, z1, z2, z3] at this ⊢
  simpa using this
theorem eq2 {n m : Int} (hn : Num n) (hm : Num m) {v : Bool} (e : decide (n = m) = v) : ∀ w, (Op.equalIn 10000 24 (.agg #[.int .u64 (l0 n), .int .u64 (l1 n), .int .u64 (l2 n), .int .u64 (l3 n)]) (.agg #[.int .u64 (l0 m), .int .u64 (l1 m), .int .u64 (l2 m), .int .u64 (l3 m)])).run Tryz.prog w = .ok v w := fun w => by
  rw [eq_num hn hm, e]
theorem n_pos : (0 : Int) < nN := by decide
/-- s times the nonce. -/
theorem sw_back {t non : Int} (hn : 0 ≤ non) (hz : modN nN non ≠ 0) (ht : modN nN t = t) : modN nN (modN nN (t * invN nN non) * non) = t := by
  have e := EC.inv_n hn hz
  unfold modN at *
  have h1 : (t * invN nN non % nN * non) % nN = (t * (non * invN nN non % nN)) % nN := by
    rw [Int.mul_emod, Int.emod_emod_of_dvd _ (Int.dvd_refl _), ← Int.mul_emod, Int.mul_emod t (non * invN nN non % nN), Int.emod_emod_of_dvd _ (Int.dvd_refl _), ← Int.mul_emod]
    congr 1
    rw [Int.mul_assoc, Int.mul_comm (invN nN non) non]
  rw [h1, e, Int.mul_one, ht]
theorem neg_back {s t non : Int} (h : modN nN (s * non) = t) : modN nN (modN nN (0 - s) * non) = modN nN (0 - t) := by
  unfold modN at *
  rw [← h]
  have h1 : ((0 - s) % nN * non) % nN = ((0 - s) * non) % nN := by
    rw [Int.mul_emod, Int.emod_emod_of_dvd _ (Int.dvd_refl _), ← Int.mul_emod]
  have h2 : (0 - s * non % nN) % nN = (0 - s * non) % nN := by
    rw [Int.sub_emod, Int.emod_emod_of_dvd _ (Int.dvd_refl _), ← Int.sub_emod]
  rw [h1, h2]
  congr 1
  rw [Int.zero_sub, Int.zero_sub, Int.neg_mul]
theorem odd_is (Y : Int) (h : Num Y) : oddB Y = ((l0 Y).tmod 2 == 1) := by
  unfold oddB bitN l0
  rw [if_neg (by decide)]
  have h0 := h.1
  have e : (Y % 18446744073709551616).tmod 2 = Y % 2 := by
    rw [Int.tmod_eq_emod_of_nonneg (by omega)]; omega
  rw [e]
  have e2 : Y / 2 ^ (0 : Int).toNat % 2 = Y % 2 := by simp
  rw [e2]
  by_cases h1 : Y % 2 = 1 <;> simp [h1]
theorem half_n : shrN nN 1 = 57896044618658097711785492504343953926418782139537452191302581570759080747168 := by decide +kernel
theorem n_lit : nN = 115792089237316195423570985008687907852837564279074904382605163141518161494337 := rfl
theorem mod_small {x : Int} : 0 ≤ modN nN x ∧ modN nN x < nN := modN_lt fit_n x
theorem neg_small {s : Int} (h0 : 0 < s) (h1 : s < nN) : modN nN (0 - s) = nN - s := by
  unfold modN
  have : (0 - s) % nN = (0 - s + nN) % nN := by rw [Int.add_emod_right]
  rw [this, Int.emod_eq_of_lt (by omega) (by omega)]
  omega
theorem fit_true {x : Int} (h0 : x ≠ 0) (h1 : x < nN) : fitN x = true := by unfold fitN; simp [h0, h1]
theorem prod_nz {s non : Int} (s0 : 0 ≤ s) (s1 : s < nN) (h0 : s ≠ 0) (n0 : 0 ≤ non) (n1 : non < nN) (hn : non ≠ 0) : modN nN (s * non) ≠ 0 := fun e => by
  have hz : modN nN non ≠ 0 := by rw [modN_of_lt n0 n1]; exact hn
  have i := EC.inv_n n0 hz
  have h1 : modN nN (s * non * invN nN non) = s := by
    have e1 : s * non * invN nN non = s * (non * invN nN non) := Int.mul_assoc _ _ _
    rw [e1]
    unfold modN at *
    rw [Int.mul_emod, i, Int.mul_one, Int.emod_emod_of_dvd _ (Int.dvd_refl _), Int.emod_eq_of_lt s0 s1]
  apply h0
  rw [← h1]
  unfold modN at *
  rw [Int.mul_emod, e, Int.zero_mul]
  rfl
end Go.Proofs.YtjhongkmempepaaGreatDoor

namespace Go.Proofs.YtjhongkmempepaaGreatDoor
open Go.RowKit Go.Sort

/-- The opposite's value. -/
theorem neg_val {X Y : Int} {j : Bool} (h : Vd X Y j) : Vd X (modN pN (0 - Y)) j ∧ ptOf X (modN pN (0 - Y)) j = (ptOf X Y j).neg := by
  cases j with
  | true => obtain ⟨rfl, rfl⟩ := h; exact ⟨⟨rfl, rfl⟩, rfl⟩
  | false =>
    have en : EC.fp (modN pN (0 - Y)) = -EC.fp Y := by
      rw [EC.fp_mod, EC.fp_sub, EC.fp_zero]
      generalize EC.fp Y = y
      grind -lia -linarith
    have e : ptOf X (modN pN (0 - Y)) false = (ptOf X Y false).neg := by
      show EC.Pt.a _ _ = EC.Pt.a _ _
      rw [en]
    refine ⟨⟨h.1, EC.low_mod _, ?_⟩, e⟩
    rw [e]
    have h0 : EC.fp Y * EC.fp Y = EC.fp X * EC.fp X * EC.fp X + 7 := h.2.2
    show -EC.fp Y * -EC.fp Y = EC.fp X * EC.fp X * EC.fp X + 7
    generalize EC.fp Y = y at *; generalize EC.fp X = x at *
    grind -lia -linarith
/-- The number that a nonce makes t with is one alone. -/
theorem sw_one {x t non : Int} (x0 : 0 ≤ x) (x1 : x < nN) (hn : 0 ≤ non) (hz : modN nN non ≠ 0) (h : modN nN (x * non) = t) : modN nN (t * invN nN non) = x := by
  have i := EC.inv_n hn hz
  rw [← h]
  unfold modN at *
  have h1 : (x * non % nN * invN nN non) % nN = (x * (non * invN nN non % nN)) % nN := by
    rw [Int.mul_emod, Int.emod_emod_of_dvd _ (Int.dvd_refl _), ← Int.mul_emod, Int.mul_emod x (non * invN nN non % nN), Int.emod_emod_of_dvd _ (Int.dvd_refl _), ← Int.mul_emod]
    congr 1
    rw [Int.mul_assoc]
  rw [h1, i, Int.mul_one, Int.emod_eq_of_lt x0 x1]
theorem neg_neg_mul {s non : Int} : modN nN (modN nN (0 - s) * modN nN (0 - non)) = modN nN (s * non) := by
  unfold modN
  rw [← Int.mul_emod]
  congr 1
  rw [Int.zero_sub, Int.zero_sub, Int.neg_mul_neg]
theorem sw_turned {key non dg X : Int} (h0 : 0 < non) (h1 : non < nN) : swS key (modN nN (0 - non)) dg X = modN nN (0 - swS key non dg X) := by
  have hz : modN nN non ≠ 0 := by rw [modN_of_lt (by omega) h1]; omega
  have e' := neg_small h0 h1
  have hz' : modN nN (modN nN (0 - non)) ≠ 0 := by
    rw [modN_of_lt mod_small.1 mod_small.2, e']; omega
  have mt : modN nN (modN nN (dg + modN nN (X * key))) = modN nN (dg + modN nN (X * key)) := modN_of_lt mod_small.1 mod_small.2
  have back := sw_back (t := modN nN (dg + modN nN (X * key))) (by omega) hz mt
  refine sw_one (t := modN nN (dg + modN nN (X * key))) (x := modN nN (0 - swS key non dg X)) mod_small.1 mod_small.2 mod_small.1 hz' ?_
  rw [neg_neg_mul]
  exact back
theorem low_turned {s : Int} (h0 : 0 < s) (h1 : s < nN) : lowN (modN nN (0 - s)) = !lowN s := by
  unfold lowN
  rw [neg_small h0 h1, half_n, n_lit]
  by_cases h : s ≤ 57896044618658097711785492504343953926418782139537452191302581570759080747168
  · rw [decide_eq_true h, decide_eq_false (by omega)]; rfl
  · rw [decide_eq_false h, decide_eq_true (by rw [n_lit] at h1; omega)]; rfl
theorem odd_turned {X Y : Int} (h : Vd X Y false) : oddB (modN pN (0 - Y)) = !oddB Y := by
  have hy : Y ≠ 0 := fun e => by
    subst e
    have h0 : EC.fp 0 * EC.fp 0 = EC.fp X * EC.fp X * EC.fp X + 7 := h.2.2
    rw [EC.fp_zero] at h0
    refine EC.no_two_p (EC.fp X) ?_
    rw [← h0]
    decide +kernel
  obtain ⟨a, b⟩ := h.2.1
  have e : modN pN (0 - Y) = pN - Y := by
    unfold modN
    have : (0 - Y) % pN = (0 - Y + pN) % pN := by rw [Int.add_emod_right]
    rw [this, Int.emod_eq_of_lt (by omega) (by omega)]
    omega
  rw [EC.pN_is] at b
  rw [e, EC.pN_is]
  unfold oddB bitN
  rw [if_neg (by decide), if_neg (by decide)]
  simp only [show (0 : Int).toNat = 0 from rfl, Int.pow_zero, Int.ediv_one]
  by_cases h1 : Y % 2 = 1
  · rw [decide_eq_true h1, decide_eq_false (by omega)]; rfl
  · rw [decide_eq_false h1, decide_eq_true (by omega)]; rfl
theorem turned_pt {non : Int} (h0 : 0 < non) (h1 : non < nN) : EC.smul (modN nN (0 - non)).toNat EC.gJ.pt = (EC.smul non.toNat EC.gJ.pt).neg := by
  rw [neg_small h0 h1]
  have hn : non.toNat ≤ 115792089237316195423570985008687907852837564279074904382605163141518161494337 := by rw [n_lit] at h1; omega
  rw [EC.base_g.neg hn]
  congr 1
  rw [n_lit]; omega
/-- A nonce and its opposite make one signature. -/
theorem swR_turned {key non X Y : Int} {A : List Int} {j : Bool} (h1 : fitN key = true) (h2 : fitN non = true) (n0 : 0 ≤ non) (hv : Vd X Y j) : swR key (modN nN (0 - non)) A X (modN pN (0 - Y)) = swR key non A X Y := by
  obtain ⟨k1, k2⟩ := fitN_fit h2
  have n1 : 0 < non := by omega
  have e' := neg_small n1 k2
  have h3 : fitN (modN nN (0 - non)) = true := fit_true (by rw [e']; omega) (by rw [e']; omega)
  have es := sw_turned (key := key) (dg := dgN A) (X := X) n1 k2
  have sl : 0 ≤ swS key non (dgN A) X ∧ swS key non (dgN A) X < nN := mod_small
  unfold swR
  rw [h1, h2, h3, es]
  generalize swS key non (dgN A) X = s at *
  simp only [Bool.and_self, Bool.true_eq_false, if_false]
  by_cases c1 : X < nN
  · rw [if_neg (not_not_intro c1), if_neg (not_not_intro c1)]
    by_cases cx : X = 0
    · rw [if_pos (.inl cx), if_pos (.inl cx)]
    · by_cases cs : s = 0
      · rw [if_pos (.inr (by rw [cs]; rfl)), if_pos (.inr cs)]
      · have s1 : 0 < s := by omega
        have e2 := neg_small s1 sl.2
        have q1 : ¬ (X = 0 ∨ modN nN (0 - s) = 0) := fun h => h.elim cx (by rw [e2]; omega)
        have q2 : ¬ (X = 0 ∨ s = 0) := fun h => h.elim cx cs
        rw [if_neg q1, if_neg q2, low_turned s1 sl.2]
        have hj : j = false := by
          cases j with
          | false => rfl
          | true => exact absurd hv.1 cx
        subst hj
        rw [odd_turned hv]
        have e3 : modN nN (0 - modN nN (0 - s)) = s := by
          rw [e2, neg_small (by omega) (by omega)]; omega
        cases hl : lowN s with
        | true => rw [e3]; simp
        | false => simp
  · rw [if_pos c1, if_pos c1]
end Go.Proofs.YtjhongkmempepaaGreatDoor

namespace Go.Proofs.YtjhongkmempepaaGreatDoor
open Go.RowKit Go.Sort

/-- What Lift finds is a point. -/
theorem lift_vd {x : Int} (hx : Num x) (h : liftOk x) (i : Bool) : Vd x (liftY i x) false := by
  obtain ⟨h1, h2⟩ := h
  have lx : EC.Low x := ⟨hx.1, h1⟩
  have hc : modN pN (powN pN (cubN x) qN * powN pN (cubN x) qN) = modN pN (cubN x) := by
    unfold rootE at h2
    by_cases e : modN pN (powN pN (cubN x) qN * powN pN (cubN x) qN) = modN pN (cubN x)
    · exact e
    · rw [if_neg e] at h2; exact absurd h2 (by decide)
  have hr := root_back hc
  have lr : EC.Low (rootN (cubN x)) := by
    have := even_one (powN_lt fit_p (cubN x) qN).1 (powN_lt fit_p (cubN x) qN).2
    unfold rootN
    rw [if_pos hc]
    exact ⟨this.2.1, this.2.2.1⟩
  have base : Vd x (rootN (cubN x)) false := by
    refine ⟨lx, lr, ?_⟩
    have e := congrArg EC.fp hr
    unfold cubN at e
    simp only [EC.fp_mod, EC.fp_mul, EC.fp_add] at e
    rw [show EC.fp 7 = 7 by decide +kernel] at e
    show EC.fp _ * EC.fp _ = _
    unfold cubN
    exact e
  have el : liftY i x = if i then modN pN (0 - rootN (cubN x)) else rootN (cubN x) := by
    unfold liftY; rw [if_pos ⟨h1, h2⟩]
  rw [el]
  cases i with
  | false => exact base
  | true => exact (neg_val base).1
end Go.Proofs.YtjhongkmempepaaGreatDoor

namespace Go.Proofs.YtjhongkmempepaaGreatDoor
open Go.RowKit Go.Sort

theorem chk_fit {r s : Int} (h : chkN r s = 0) : fitN r = true ∧ fitN s = true ∧ lowN s = true := by
  unfold chkN at h
  cases h1 : fitN r with
  | false => rw [h1, if_pos rfl] at h; exact absurd h (by decide)
  | true =>
    rw [h1, if_neg (by decide)] at h
    cases h2 : fitN s with
    | false => rw [h2, if_pos rfl] at h; exact absurd h (by decide)
    | true =>
      rw [h2, if_neg (by decide)] at h
      cases h3 : lowN s with
      | false => rw [h3, if_pos rfl] at h; exact absurd h (by decide)
      | true => exact ⟨rfl, rfl, rfl⟩
theorem recover_bad {r s : Int} {o : Bool} {A : List Int} (hr : Num r) (hs : Num s) (hl : A.length = 32) (h : chkN r s ≠ 0) : ∀ w, Mds w → Cols w → Calls Tryz.prog 11 #[hashV A, .agg #[.int .u64 (l0 r), .int .u64 (l1 r), .int .u64 (l2 r), .int .u64 (l3 r), .int .u64 (l0 s), .int .u64 (l1 s), .int .u64 (l2 s), .int .u64 (l3 s), .bool o]] w fun e w' => e = .returned (.tuple #[.agg #[.int .u64 (l0 0), .int .u64 (l1 0), .int .u64 (l2 0), .int .u64 (l3 0), .int .u64 (l0 0), .int .u64 (l1 0), .int .u64 (l2 0), .int .u64 (l3 0), .bool false], .int .i64 (chkN r s)]) ∧ Below w.heap.size w w' := fun w hm hc => erec_check hl (echeck_any hr hs) h w hm hc
theorem recover_far {r s : Int} {o : Bool} {A : List Int} (hr : Num r) (hs : Num s) (hl : A.length = 32) (h : chkN r s = 0) (h2 : ¬ liftOk r) : ∀ w, Mds w → Cols w → Calls Tryz.prog 11 #[hashV A, .agg #[.int .u64 (l0 r), .int .u64 (l1 r), .int .u64 (l2 r), .int .u64 (l3 r), .int .u64 (l0 s), .int .u64 (l1 s), .int .u64 (l2 s), .int .u64 (l3 s), .bool o]] w fun e w' => e = .returned (.tuple #[.agg #[.int .u64 (l0 0), .int .u64 (l1 0), .int .u64 (l2 0), .int .u64 (l3 0), .int .u64 (l0 0), .int .u64 (l1 0), .int .u64 (l2 0), .int .u64 (l3 0), .bool false], .int .i64 64]) ∧ Below w.heap.size w w' := fun w hm hc => by
  have C0 := echeck_any (o := o) hr hs
  rw [h] at C0
  have C1 := fun w hm => clift_any hr o w hm
  have e : liftE r = 50 := by unfold liftE; rw [if_neg h2]
  rw [e] at C1
  exact erec_lift hl C0 C1 (by decide) w hm hc
/-- The two numbers of which Recover makes the key. -/
def recB (r : Int) (A : List Int) : Int := modN nN (modN nN (0 - dgN A) * invN nN r)
def recC (r s : Int) : Int := modN nN (s * invN nN r)
theorem recover_any {r s X Y : Int} {o j : Bool} {A : List Int} (hr : Num r) (hs : Num s) (hA : Byts A) (hl : A.length = 32) (h : chkN r s = 0) (h2 : liftOk r) (hj : Vd X Y j)
    (ej : ptOf X Y j = (EC.smul (recB r A).toNat EC.gJ.pt).add (EC.smul (recC r s).toNat (ptOf r (liftY o r) false))) : ∀ w, Mds w → Cols w → Calls Tryz.prog 11 #[hashV A, .agg #[.int .u64 (l0 r), .int .u64 (l1 r), .int .u64 (l2 r), .int .u64 (l3 r), .int .u64 (l0 s), .int .u64 (l1 s), .int .u64 (l2 s), .int .u64 (l3 s), .bool o]] w fun e w' => e = .returned (.tuple #[.agg #[.int .u64 (l0 (if j then 0 else X)), .int .u64 (l1 (if j then 0 else X)), .int .u64 (l2 (if j then 0 else X)), .int .u64 (l3 (if j then 0 else X)), .int .u64 (l0 (if j then 0 else Y)), .int .u64 (l1 (if j then 0 else Y)), .int .u64 (l2 (if j then 0 else Y)), .int .u64 (l3 (if j then 0 else Y)), .bool false], .int .i64 (if j then 65 else 0)]) ∧ Below w.heap.size w w' := fun w hm hc => by
  have C0 := echeck_any (o := o) hr hs
  rw [h] at C0
  obtain ⟨f1, _, _⟩ := chk_fit h
  obtain ⟨r0, r1⟩ := fitN_fit f1
  have hz : modN nN r ≠ 0 := by rw [modN_of_lt hr.1 r1]; exact r0
  have C1 := fun w hm => clift_any hr o w hm
  have e1 : liftE r = 0 := by unfold liftE; rw [if_pos h2]
  have e2 : liftX r = r := by unfold liftX; rw [if_pos h2]
  rw [e1, e2] at C1
  have hv := lift_vd hr h2 o
  have nv : Num (invN nN r) := powN_Num fit_n _ _
  have CN : Hid (∀ w, Mds w → Calls Tryz.prog 15 #[.agg ((A.map fun z => Value.int .u8 z).toArray)] w fun e w' => e = .returned (.agg #[.int .u64 (l0 (dgN A)), .int .u64 (l1 (dgN A)), .int .u64 (l2 (dgN A)), .int .u64 (l3 (dgN A))]) ∧ Below w.heap.size w w') := fun w hm => enumber_any hA hl w hm
  have CO := eopp_any (x := dgN A) (modN_Num fit_n _)
  have C3 : Hid (∀ w, Mds w → Calls Tryz.prog 26 #[.agg #[.int .u64 (l0 (modN nN (0 - dgN A))), .int .u64 (l1 (modN nN (0 - dgN A))), .int .u64 (l2 (modN nN (0 - dgN A))), .int .u64 (l3 (modN nN (0 - dgN A)))], .agg #[.int .u64 (l0 (invN nN r)), .int .u64 (l1 (invN nN r)), .int .u64 (l2 (invN nN r)), .int .u64 (l3 (invN nN r))]] w fun e w' => e = .returned (.agg #[.int .u64 (l0 (recB r A)), .int .u64 (l1 (recB r A)), .int .u64 (l2 (recB r A)), .int .u64 (l3 (recB r A))]) ∧ Below w.heap.size w w') := eprod_any (modN_Num fit_n _) nv
  have C4 : Hid (∀ w, Mds w → Calls Tryz.prog 26 #[.agg #[.int .u64 (l0 s), .int .u64 (l1 s), .int .u64 (l2 s), .int .u64 (l3 s)], .agg #[.int .u64 (l0 (invN nN r)), .int .u64 (l1 (invN nN r)), .int .u64 (l2 (invN nN r)), .int .u64 (l3 (invN nN r))]] w fun e w' => e = .returned (.agg #[.int .u64 (l0 (recC r s)), .int .u64 (l1 (recC r s)), .int .u64 (l2 (recC r s)), .int .u64 (l3 (recC r s))]) ∧ Below w.heap.size w w') := eprod_any hs nv
  have CM := fun w hm hc => cmuladd_any (a := recB r A) (b := recC r s) (modN_Num fit_n _) (modN_Num fit_n _) hv hj ej w hm hc
  cases j with
  | true => exact erec_none hl C0 C1 (einv_any hr hz) CN CO C3 C4 CM w hm hc
  | false => exact erec_ok hl C0 C1 (einv_any hr hz) CN CO C3 C4 CM w hm hc
def verB (s : Int) (A : List Int) : Int := modN nN (dgN A * invN nN s)
def verC (r s : Int) : Int := modN nN (r * invN nN s)
theorem verify_any {x y r s X Y : Int} {o j : Bool} {A : List Int} (hv : Vd x y false) (hr : Num r) (hs : Num s) (hA : Byts A) (hl : A.length = 32) (h : chkN r s = 0) (hj : Vd X Y j)
    (ej : ptOf X Y j = (EC.smul (verB s A).toNat EC.gJ.pt).add (EC.smul (verC r s).toNat (ptOf x y false))) : ∀ w, Mds w → Cols w → Calls Tryz.prog 9 #[.agg #[.int .u64 (l0 x), .int .u64 (l1 x), .int .u64 (l2 x), .int .u64 (l3 x), .int .u64 (l0 y), .int .u64 (l1 y), .int .u64 (l2 y), .int .u64 (l3 y), .bool false], hashV A, .agg #[.int .u64 (l0 r), .int .u64 (l1 r), .int .u64 (l2 r), .int .u64 (l3 r), .int .u64 (l0 s), .int .u64 (l1 s), .int .u64 (l2 s), .int .u64 (l3 s), .bool o]] w fun e w' => e = .returned (.tuple #[.bool (!j && decide (modN nN X = r)), .int .i64 0]) ∧ Below w.heap.size w w' := fun w hm hc => by
  have C1 := echeck_any (o := o) hr hs
  rw [h] at C1
  obtain ⟨_, f2, _⟩ := chk_fit h
  obtain ⟨s0, s1⟩ := fitN_fit f2
  have hz : modN nN s ≠ 0 := by rw [modN_of_lt hs.1 s1]; exact s0
  have nv : Num (invN nN s) := powN_Num fit_n _ _
  have CN : Hid (∀ w, Mds w → Calls Tryz.prog 15 #[.agg ((A.map fun z => Value.int .u8 z).toArray)] w fun e w' => e = .returned (.agg #[.int .u64 (l0 (dgN A)), .int .u64 (l1 (dgN A)), .int .u64 (l2 (dgN A)), .int .u64 (l3 (dgN A))]) ∧ Below w.heap.size w w') := fun w hm => enumber_any hA hl w hm
  have C3 : Hid (∀ w, Mds w → Calls Tryz.prog 26 #[.agg #[.int .u64 (l0 (dgN A)), .int .u64 (l1 (dgN A)), .int .u64 (l2 (dgN A)), .int .u64 (l3 (dgN A))], .agg #[.int .u64 (l0 (invN nN s)), .int .u64 (l1 (invN nN s)), .int .u64 (l2 (invN nN s)), .int .u64 (l3 (invN nN s))]] w fun e w' => e = .returned (.agg #[.int .u64 (l0 (verB s A)), .int .u64 (l1 (verB s A)), .int .u64 (l2 (verB s A)), .int .u64 (l3 (verB s A))]) ∧ Below w.heap.size w w') := eprod_any (modN_Num fit_n _) nv
  have C4 : Hid (∀ w, Mds w → Calls Tryz.prog 26 #[.agg #[.int .u64 (l0 r), .int .u64 (l1 r), .int .u64 (l2 r), .int .u64 (l3 r)], .agg #[.int .u64 (l0 (invN nN s)), .int .u64 (l1 (invN nN s)), .int .u64 (l2 (invN nN s)), .int .u64 (l3 (invN nN s))]] w fun e w' => e = .returned (.agg #[.int .u64 (l0 (verC r s)), .int .u64 (l1 (verC r s)), .int .u64 (l2 (verC r s)), .int .u64 (l3 (verC r s))]) ∧ Below w.heap.size w w') := eprod_any hr nv
  have CM := fun w hm hc => cmuladd_any (a := verB s A) (b := verC r s) (modN_Num fit_n _) (modN_Num fit_n _) hv hj ej w hm hc
  cases j with
  | true => exact ever_none hl (con_yes hv) C1 (einv_any hs hz) CN C3 C4 CM w hm hc
  | false => exact ever_ok hl (con_yes hv) C1 (einv_any hs hz) CN C3 C4 CM (ered_any hj.low.1.num) (eq2 (modN_Num fit_n _) hr rfl) w hm hc
end Go.Proofs.YtjhongkmempepaaGreatDoor

namespace Go.Proofs.YtjhongkmempepaaGreatDoor
open Go.RowKit Go.Sort

set_option maxRecDepth 100000 in
set_option maxHeartbeats 8000000 in
theorem ever_id {x y r s : Int} {o : Bool} {A : List Int} (w : World) :
    Calls Tryz.prog 9 #[.agg #[.int .u64 (l0 x), .int .u64 (l1 x), .int .u64 (l2 x), .int .u64 (l3 x), .int .u64 (l0 y), .int .u64 (l1 y), .int .u64 (l2 y), .int .u64 (l3 y), .bool true], hashV A, .agg #[.int .u64 (l0 r), .int .u64 (l1 r), .int .u64 (l2 r), .int .u64 (l3 r), .int .u64 (l0 s), .int .u64 (l1 s), .int .u64 (l2 s), .int .u64 (l3 s), .bool o]] w fun e w' => e = .returned (.tuple #[.bool false, .int .i64 50]) ∧ Below w.heap.size w w' := by
  unfold hashV
  go_enter Tryz.func9, Tryz.ntmps9
  go_wp2
  simp [bodyPost, results, Tryz.results9, go_sem]
  repeat (first | with_reducible exact Below.refl _ _ | with_reducible refine Below.alloc ?_ (by first | omega | (simp; done) | (simp; omega)) _)
theorem recB_alt (r : Int) (A : List Int) : modN nN (0 - modN nN (dgN A * invN nN r)) = recB r A := (neg_back rfl).symm
theorem ep_num {x y : Int} {i : Bool} (hx : Num x) (hy : Num y) : ∀ w, (Op.equalIn 10000 37 (.agg #[.int .u64 (l0 x), .int .u64 (l1 x), .int .u64 (l2 x), .int .u64 (l3 x), .int .u64 (l0 y), .int .u64 (l1 y), .int .u64 (l2 y), .int .u64 (l3 y), .bool i]) (.agg #[.int .u64 (l0 x), .int .u64 (l1 x), .int .u64 (l2 x), .int .u64 (l3 x), .int .u64 (l0 y), .int .u64 (l1 y), .int .u64 (l2 y), .int .u64 (l3 y), .bool i])).run Tryz.prog w = .ok true w := fun w => eq_pt_yes hx hy w
theorem num_zero : Num 0 := ⟨by decide, by decide⟩
theorem lift_e' {r : Int} (h : liftOk r) : liftE r = 0 ∧ liftX r = r := by
  unfold liftE liftX; rw [if_pos h, if_pos h]; exact ⟨rfl, rfl⟩
theorem erecs_any {r s : Int} {o : Bool} {A : List Int} (hl : A.length = 32) (hA : Byts A) (hr : Num r) (hs : Num s) (w : World) (hm : Mds w) (hc : Cols w) :
    Calls Tryz.prog 5 #[hashV A, .agg #[.int .u64 (l0 r), .int .u64 (l1 r), .int .u64 (l2 r), .int .u64 (l3 r), .int .u64 (l0 s), .int .u64 (l1 s), .int .u64 (l2 s), .int .u64 (l3 s), .bool o]] w fun e w' => e = .returned (.bool true) ∧ Below w.heap.size w w' := by
  have CK := r6check_any (o := o) hr hs
  by_cases h : chkN r s = 0
  · rw [h] at CK
    have LF : Hid (∀ w, Calls Tryz.prog 37 #[.agg #[.int .u64 (l0 r), .int .u64 (l1 r), .int .u64 (l2 r), .int .u64 (l3 r)], .bool o] w fun e w' => e = .returned (.tuple #[.agg #[.int .u64 (l0 (liftX r)), .int .u64 (l1 (liftX r)), .int .u64 (l2 (liftX r)), .int .u64 (l3 (liftX r)), .int .u64 (l0 (liftY o r)), .int .u64 (l1 (liftY o r)), .int .u64 (l2 (liftY o r)), .int .u64 (l3 (liftY o r)), .bool false], .int .i64 (liftE r)]) ∧ Below w.heap.size w w') := fun w => r5lift_any hr o w
    by_cases h2 : liftOk r
    · obtain ⟨e1, e2⟩ := lift_e' h2
      rw [e1, e2] at LF
      obtain ⟨f1, f2, _⟩ := chk_fit h
      obtain ⟨r0, r1⟩ := fitN_fit f1
      have hz : modN nN r ≠ 0 := by rw [modN_of_lt hr.1 r1]; exact r0
      have hv := lift_vd hr h2 o
      have nd : Num (dgN A) := modN_Num fit_n _
      have nv : Num (invN nN r) := powN_Num fit_n _ _
      obtain ⟨X, Y, j, hj, ej⟩ := rep_pt (EC.Pt.on (EC.smul_on EC.gJ_on (recB r A).toNat) (EC.smul_on hv.on (recC r s).toNat))
      have RC := recover_any (o := o) hr hs hA hl h h2 hj ej
      have CN : Hid (∀ w, Calls Tryz.prog 31 #[.agg ((A.map fun z => Value.int .u8 z).toArray)] w fun e w' => e = .returned (.agg #[.int .u64 (l0 (dgN A)), .int .u64 (l1 (dgN A)), .int .u64 (l2 (dgN A)), .int .u64 (l3 (dgN A))]) ∧ Below w.heap.size w w') := fun w => r6number_any hA hl w
      have C3 := r6times_any nd nv
      have CO := r4neg_n (x := modN nN (dgN A * invN nN r)) (modN_Num fit_n _)
      rw [recB_alt] at CO
      have C4 : Hid (∀ w, Calls Tryz.prog 33 #[.agg #[.int .u64 (l0 s), .int .u64 (l1 s), .int .u64 (l2 s), .int .u64 (l3 s)], .agg #[.int .u64 (l0 (invN nN r)), .int .u64 (l1 (invN nN r)), .int .u64 (l2 (invN nN r)), .int .u64 (l3 (invN nN r))]] w fun e w' => e = .returned (.agg #[.int .u64 (l0 (recC r s)), .int .u64 (l1 (recC r s)), .int .u64 (l2 (recC r s)), .int .u64 (l3 (recC r s))]) ∧ Below w.heap.size w w') := r6times_any hs nv
      have CM := fun w => r5muladd_any (a := recB r A) (b := recC r s) (modN_Num fit_n _) (modN_Num fit_n _) hv hj ej w
      cases j with
      | true => exact erecs_walk hl RC (r6rec_none hl CK LF (r6inv_any hr hz) CN C3 CO C4 CM) (fun w => lnum6_any _ w) (ep_num num_zero num_zero) w hm hc
      | false => exact erecs_walk hl RC (r6rec_ok hl CK LF (r6inv_any hr hz) CN C3 CO C4 CM) (fun w => lnum6_any _ w) (ep_num hj.low.1.num hj.low.2.num) w hm hc
    · have ne : liftE r ≠ 0 := by unfold liftE; rw [if_neg h2]; decide
      exact erecs_walk hl (recover_far (o := o) hr hs hl h h2) (r6rec_lift hl CK LF ne) (fun w => lnum6_any _ w) (ep_num num_zero num_zero) w hm hc
  · exact erecs_walk hl (recover_bad (o := o) hr hs hl h) (r6rec_check hl CK h) (fun w => lnum6_any _ w) (ep_num num_zero num_zero) w hm hc
theorem evers_any {x y r s : Int} {i o : Bool} {A : List Int} (hx : Num x) (hy : Num y) (hl : A.length = 32) (hA : Byts A) (hr : Num r) (hs : Num s) (w : World) (hm : Mds w) (hc : Cols w) :
    Calls Tryz.prog 4 #[.agg #[.int .u64 (l0 x), .int .u64 (l1 x), .int .u64 (l2 x), .int .u64 (l3 x), .int .u64 (l0 y), .int .u64 (l1 y), .int .u64 (l2 y), .int .u64 (l3 y), .bool i], hashV A, .agg #[.int .u64 (l0 r), .int .u64 (l1 r), .int .u64 (l2 r), .int .u64 (l3 r), .int .u64 (l0 s), .int .u64 (l1 s), .int .u64 (l2 s), .int .u64 (l3 s), .bool o]] w fun e w' => e = .returned (.bool true) ∧ Below w.heap.size w w' := by
  cases i with
  | true =>
    by_cases hv : Vd x y true
    · exact evers_walk hl (fun w _ _ => ever_id w) (r6ver_id hl (r5on_yes hv)) (fun w => lnum6_any _ w) w hm hc
    · exact evers_walk hl (fun w _ _ => ever_id w) (r6ver_off hl (r5on_no hx hy hv)) (fun w => lnum6_any _ w) w hm hc
  | false =>
    by_cases hv : Vd x y false
    · have CK := r6check_any (o := o) hr hs
      have CP := echeck_any (o := o) hr hs
      by_cases h : chkN r s = 0
      · rw [h] at CK
        obtain ⟨_, f2, _⟩ := chk_fit h
        obtain ⟨s0, s1⟩ := fitN_fit f2
        have hz : modN nN s ≠ 0 := by rw [modN_of_lt hs.1 s1]; exact s0
        have nd : Num (dgN A) := modN_Num fit_n _
        have nv : Num (invN nN s) := powN_Num fit_n _ _
        obtain ⟨X, Y, j, hj, ej⟩ := rep_pt (EC.Pt.on (EC.smul_on EC.gJ_on (verB s A).toNat) (EC.smul_on hv.on (verC r s).toNat))
        have VE := verify_any (o := o) hv hr hs hA hl h hj ej
        have CN : Hid (∀ w, Calls Tryz.prog 31 #[.agg ((A.map fun z => Value.int .u8 z).toArray)] w fun e w' => e = .returned (.agg #[.int .u64 (l0 (dgN A)), .int .u64 (l1 (dgN A)), .int .u64 (l2 (dgN A)), .int .u64 (l3 (dgN A))]) ∧ Below w.heap.size w w') := fun w => r6number_any hA hl w
        have C3 : Hid (∀ w, Calls Tryz.prog 33 #[.agg #[.int .u64 (l0 (dgN A)), .int .u64 (l1 (dgN A)), .int .u64 (l2 (dgN A)), .int .u64 (l3 (dgN A))], .agg #[.int .u64 (l0 (invN nN s)), .int .u64 (l1 (invN nN s)), .int .u64 (l2 (invN nN s)), .int .u64 (l3 (invN nN s))]] w fun e w' => e = .returned (.agg #[.int .u64 (l0 (verB s A)), .int .u64 (l1 (verB s A)), .int .u64 (l2 (verB s A)), .int .u64 (l3 (verB s A))]) ∧ Below w.heap.size w w') := r6times_any nd nv
        have C4 : Hid (∀ w, Calls Tryz.prog 33 #[.agg #[.int .u64 (l0 r), .int .u64 (l1 r), .int .u64 (l2 r), .int .u64 (l3 r)], .agg #[.int .u64 (l0 (invN nN s)), .int .u64 (l1 (invN nN s)), .int .u64 (l2 (invN nN s)), .int .u64 (l3 (invN nN s))]] w fun e w' => e = .returned (.agg #[.int .u64 (l0 (verC r s)), .int .u64 (l1 (verC r s)), .int .u64 (l2 (verC r s)), .int .u64 (l3 (verC r s))]) ∧ Below w.heap.size w w') := r6times_any hr nv
        have CM := fun w => r5muladd_any (a := verB s A) (b := verC r s) (modN_Num fit_n _) (modN_Num fit_n _) hv hj ej w
        cases j with
        | true => exact evers_walk hl VE (r6ver_none hl (r5on_yes hv) CK (r6inv_any hs hz) CN C3 C4 CM) (fun w => lnum6_any _ w) w hm hc
        | false =>
          exact evers_walk (v := decide (modN nN X = r)) hl VE (r6ver_ok hl (r5on_yes hv) CK (r6inv_any hs hz) CN C3 C4 CM (r4red_n hj.low.1.num) (eq2 (modN_Num fit_n _) hr rfl)) (fun w => lnum6_any _ w) w hm hc
      · exact evers_walk hl (fun w hm hc => ever_check hl (con_yes hv) CP h w hm hc) (r6ver_check hl (r5on_yes hv) CK h) (fun w => lnum6_any _ w) w hm hc
    · exact evers_walk hl (fun w hm hc => ever_off hl (con_no hx hy hv) w hm hc) (r6ver_off hl (r5on_no hx hy hv)) (fun w => lnum6_any _ w) w hm hc
end Go.Proofs.YtjhongkmempepaaGreatDoor

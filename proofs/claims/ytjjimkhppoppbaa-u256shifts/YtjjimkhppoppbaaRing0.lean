import Derived.Test.YtjjimkhppoppbaaMul2
namespace Go.Proofs.Ytjjimkhppoppbaa
open Go.RowKit

set_option maxHeartbeats 400000 in
theorem sum_any {n m : Int} (hn : Num n) (hm : Num m) (w : World) :
    Calls Try.prog 14 #[.agg #[.int .u64 (l0 n), .int .u64 (l1 n), .int .u64 (l2 n), .int .u64 (l3 n)], .agg #[.int .u64 (l0 m), .int .u64 (l1 m), .int .u64 (l2 m), .int .u64 (l3 m)]] w fun e w' => e = .returned (.agg #[.int .u64 (l0 (sumN n m)), .int .u64 (l1 (sumN n m)), .int .u64 (l2 (sumN n m)), .int .u64 (l3 (sumN n m))]) ∧ Below w.heap.size w w' := by
  go_enter Try.func14, Try.ntmps14
  go_wp2_with fail
  refine (add_any hn hm _).mono ?_
  rintro e w' ⟨rfl, hw⟩
  have hc := oldCells hw
  have hz := hw.size
  simp at hz
  have z0 : w.heap.size < w'.heap.size := by omega
  have z1 : w.heap.size + 1 < w'.heap.size := by omega
  have z2 : w.heap.size + 1 + 1 < w'.heap.size := by omega
  go_wp2
  simp [bodyPost, results, Try.results14, go_sem, hc, z2]
  clear hc
  repeat (first | with_reducible exact Below.refl _ _ | with_reducible refine Below.drew ?_ | with_reducible refine Below.setCell ?_ (by first | omega | (simp; done) | (simp; omega)) _ | with_reducible refine Below.alloc ?_ (by first | omega | (simp; done) | (simp; omega)) _ | with_reducible refine Below.trans ?_ (Below.mono hw (by first | omega | (simp; done) | (simp; omega))))

set_option maxHeartbeats 400000 in
theorem low_any {n m : Int} (hn : Num n) (hm : Num m) (w : World) :
    Calls Try.prog 15 #[.agg #[.int .u64 (l0 n), .int .u64 (l1 n), .int .u64 (l2 n), .int .u64 (l3 n)], .agg #[.int .u64 (l0 m), .int .u64 (l1 m), .int .u64 (l2 m), .int .u64 (l3 m)]] w fun e w' => e = .returned (.agg #[.int .u64 (l0 (loN n m)), .int .u64 (l1 (loN n m)), .int .u64 (l2 (loN n m)), .int .u64 (l3 (loN n m))]) ∧ Below w.heap.size w w' := by
  go_enter Try.func15, Try.ntmps15
  go_wp2_with fail
  refine (mul_any hn hm _).mono ?_
  rintro e w' ⟨rfl, hw⟩
  have hc := oldCells hw
  have hz := hw.size
  simp at hz
  have z0 : w.heap.size < w'.heap.size := by omega
  have z1 : w.heap.size + 1 < w'.heap.size := by omega
  have z2 : w.heap.size + 1 + 1 < w'.heap.size := by omega
  go_wp2
  simp [bodyPost, results, Try.results15, go_sem, hc, z1, z2]
  clear hc
  repeat (first | with_reducible exact Below.refl _ _ | with_reducible refine Below.drew ?_ | with_reducible refine Below.setCell ?_ (by first | omega | (simp; done) | (simp; omega)) _ | with_reducible refine Below.alloc ?_ (by first | omega | (simp; done) | (simp; omega)) _ | with_reducible refine Below.trans ?_ (Below.mono hw (by first | omega | (simp; done) | (simp; omega))))

end Go.Proofs.Ytjjimkhppoppbaa

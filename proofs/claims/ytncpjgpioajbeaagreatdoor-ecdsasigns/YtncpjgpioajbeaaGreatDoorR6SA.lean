import Derived.Test.YtncpjgpioajbeaaGreatDoorR6S
import Derived.Test.YtncpjgpioajbeaaGreatDoorETb
import Derived.Test.YtncpjgpioajbeaaGreatDoorCROps
import Derived.Test.YtncpjgpioajbeaaGreatDoorRefAddSub
namespace Go.Proofs.YtncpjgpioajbeaaGreatDoor
open Go.RowKit Go.Sort

theorem cmp_ge (x n : Int) : decide (0 ≤ cmpN x n) = !decide (x < n) := by
  rw [← cmp_lt x n]
  by_cases h : cmpN x n < 0
  · rw [decide_eq_true h, decide_eq_false (by omega)]; rfl
  · rw [decide_eq_false h, decide_eq_true (by omega)]; rfl
theorem sub_n {s : Int} (h0 : 0 < s) (h1 : s < nN) : Hid (∀ w, Calls Tryz.prog 70 #[.agg #[.int .u64 (l0 nN), .int .u64 (l1 nN), .int .u64 (l2 nN), .int .u64 (l3 nN)], .agg #[.int .u64 (l0 s), .int .u64 (l1 s), .int .u64 (l2 s), .int .u64 (l3 s)]] w fun e w' => e = .returned (.tuple #[.agg #[.int .u64 (l0 (modN nN (0 - s))), .int .u64 (l1 (modN nN (0 - s))), .int .u64 (l2 (modN nN (0 - s))), .int .u64 (l3 (modN nN (0 - s)))], .int .u64 (borN nN s)]) ∧ Below w.heap.size w w') := fun w => by
  have ns : Num s := ⟨by omega, by have := num_n.2; omega⟩
  have := rsub_any num_n ns w
  rw [show difN nN s = modN nN (0 - s) by rw [neg_small h0 h1]; unfold difN; have := num_n.2; exact Int.emod_eq_of_lt (by omega) (by omega)] at this
  exact this
theorem es_same' {r s : Int} {od : Bool} (hr : Num r) (hs : Num s) : ∀ w, (Op.equalIn 10000 28 (.agg #[.int .u64 (l0 r), .int .u64 (l1 r), .int .u64 (l2 r), .int .u64 (l3 r), .int .u64 (l0 s), .int .u64 (l1 s), .int .u64 (l2 s), .int .u64 (l3 s), .bool od]) (.agg #[.int .u64 (l0 r), .int .u64 (l1 r), .int .u64 (l2 r), .int .u64 (l3 r), .int .u64 (l0 s), .int .u64 (l1 s), .int .u64 (l2 s), .int .u64 (l3 s), .bool od])).run Tryz.prog w = .ok true w := fun w => by
  have := eq_sig_any (i := od) (j := od) hr hs hr hs w
  simpa using this
end Go.Proofs.YtncpjgpioajbeaaGreatDoor

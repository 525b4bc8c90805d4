import Derived.Test.YtfpiopjlcjckeaaDoorFSqNum
import Derived.Test.YtfpiopjlcjckeaaDoorFSq0t
import Derived.Test.YtfpiopjlcjckeaaDoorFSq1t
import Derived.Test.YtfpiopjlcjckeaaDoorFSq1f
import Derived.Test.YtfpiopjlcjckeaaDoorFSq2t
import Derived.Test.YtfpiopjlcjckeaaDoorFSq2f
namespace Go.Proofs.YtfpiopjlcjckeaaDoor
open Go.RowKit Go.Sort

theorem shr_l1 : shrN (pN - 1) 1 = hN := by decide
theorem eq_zero' {n : Int} (hn : Num n) (w : World) : (Op.equalIn 10000 30 (.agg #[.int .u64 (l0 n), .int .u64 (l1 n), .int .u64 (l2 n), .int .u64 (l3 n)]) (.agg #[.int .u64 0, .int .u64 0, .int .u64 0, .int .u64 0])).run Tryd.prog w = .ok (decide (n = 0)) w := feq_zero hn w

set_option maxHeartbeats 2000000 in
theorem fsquares_any {x y : Int} (hx : Num x) (hy : Num y) (w : World) (hm : Mds w) :
    Calls Tryd.prog 7 #[.agg #[.int .u64 (l0 x), .int .u64 (l1 x), .int .u64 (l2 x), .int .u64 (l3 x)], .agg #[.int .u64 (l0 y), .int .u64 (l1 y), .int .u64 (l2 y), .int .u64 (l3 y)]] w fun e w' => e = .returned (.bool true) ∧ Below w.heap.size w w' := by
  have K := kind_p
  have hf := fit_p
  have n1 : Num 1 := ⟨by decide, by decide⟩
  have nV := modN_Num hf (x * x)
  obtain ⟨sE, sR, s2, s0, s1⟩ := square_is hx.1
  have nr : Num (rootN (modN pN (x * x))) := ⟨s0, by have := hf.num.2; omega⟩
  have nl : Num (pN - 1) := ⟨by decide, by decide⟩
  have nh : Num hN := ⟨by decide, by decide⟩
  have npl : Num (modN pN x) := modN_Num hf x
  have neu : Num (eulN x) := powN_Num hf x hN
  have nmn : Num (modN pN (0 - rootN (modN pN (x * x)))) := modN_Num hf _
  have O1 := fun w h => Modulus_good K w h
  have P1 := fun w b h hs => smul_any (b := b) K hx hx w h hs
  have R1 : ∀ w, Mds w → Calls Tryd.prog 31 #[.agg #[.int .u64 (l0 (modN pN (x * x))), .int .u64 (l1 (modN pN (x * x))), .int .u64 (l2 (modN pN (x * x))), .int .u64 (l3 (modN pN (x * x)))]] w fun e w' => e = .returned (.tuple #[.agg #[.int .u64 (l0 (rootN (modN pN (x * x)))), .int .u64 (l1 (rootN (modN pN (x * x)))), .int .u64 (l2 (rootN (modN pN (x * x)))), .int .u64 (l3 (rootN (modN pN (x * x))))], .int .i64 0]) ∧ Below w.heap.size w w' := fun w h => by
    have := Root_any nV w h; rw [sE] at this; exact this
  have N1 := fun w h => Neg_good K nr w h
  have F1 := fun w => from_any (v := 1) ⟨by decide, by decide⟩ w
  have P2 : ∀ w b, Mds w → Smm w b 0 → Calls Tryd.prog 24 #[.pointer (some ⟨b, 0, none⟩), .agg #[.int .u64 (l0 x), .int .u64 (l1 x), .int .u64 (l2 x), .int .u64 (l3 x)], .agg #[.int .u64 (l0 1), .int .u64 (l1 1), .int .u64 (l2 1), .int .u64 (l3 1)]] w fun e w' => e = .returned (.agg #[.int .u64 (l0 (modN pN x)), .int .u64 (l1 (modN pN x)), .int .u64 (l2 (modN pN x)), .int .u64 (l3 (modN pN x))]) ∧ Below w.heap.size w w' := fun w b h hs => by
    have := smul_any K hx n1 w h hs; rw [Int.mul_one] at this; exact this
  have B1 : ∀ w, Calls Tryd.prog 32 #[.agg #[.int .u64 (l0 (rootN (modN pN (x * x)))), .int .u64 (l1 (rootN (modN pN (x * x)))), .int .u64 (l2 (rootN (modN pN (x * x)))), .int .u64 (l3 (rootN (modN pN (x * x))))], .int .i64 0] w fun e w' => e = .returned (.int .i64 0) ∧ Below w.heap.size w w' := fun w => by
    have := bit_any (k := 0) nr w; rw [bit0, s2] at this; exact this
  have C1 : ∀ w, Calls Tryd.prog 22 #[.agg #[.int .u64 (l0 (rootN (modN pN (x * x)))), .int .u64 (l1 (rootN (modN pN (x * x)))), .int .u64 (l2 (rootN (modN pN (x * x)))), .int .u64 (l3 (rootN (modN pN (x * x))))], .agg #[.int .u64 (l0 pN), .int .u64 (l1 pN), .int .u64 (l2 pN), .int .u64 (l3 pN)]] w fun e w' => e = .returned (.int .i64 (-1)) ∧ Below w.heap.size w w' := fun w => by
    have := cmp_any nr hf.num w
    rw [show cmpN (rootN (modN pN (x * x))) pN = -1 by unfold cmpN; rw [if_neg (by omega), if_pos s1]] at this
    exact this
  have S1 : ∀ w, Calls Tryd.prog 28 #[.agg #[.int .u64 (l0 pN), .int .u64 (l1 pN), .int .u64 (l2 pN), .int .u64 (l3 pN)], .agg #[.int .u64 (l0 1), .int .u64 (l1 1), .int .u64 (l2 1), .int .u64 (l3 1)]] w fun e w' => e = .returned (.tuple #[.agg #[.int .u64 (l0 (pN - 1)), .int .u64 (l1 (pN - 1)), .int .u64 (l2 (pN - 1)), .int .u64 (l3 (pN - 1))], .int .u64 (borN pN 1)]) ∧ Below w.heap.size w w' := fun w => by
    have := sub_any hf.num n1 w; rw [show difN pN 1 = pN - 1 by decide] at this; exact this
  have H1 : ∀ w, Calls Tryd.prog 30 #[.agg #[.int .u64 (l0 (pN - 1)), .int .u64 (l1 (pN - 1)), .int .u64 (l2 (pN - 1)), .int .u64 (l3 (pN - 1))], .int .i64 1] w fun e w' => e = .returned (.agg #[.int .u64 (l0 hN), .int .u64 (l1 hN), .int .u64 (l2 hN), .int .u64 (l3 hN)]) ∧ Below w.heap.size w w' := fun w => by
    have := shr_any (k := 1) nl w; rw [shr_l1] at this; exact this
  have X1 : ∀ w, Mds w → Calls Tryd.prog 29 #[.int .i64 0, .agg #[.int .u64 (l0 x), .int .u64 (l1 x), .int .u64 (l2 x), .int .u64 (l3 x)], .agg #[.int .u64 (l0 hN), .int .u64 (l1 hN), .int .u64 (l2 hN), .int .u64 (l3 hN)]] w fun e w' => e = .returned (.tuple #[.agg #[.int .u64 (l0 (eulN x)), .int .u64 (l1 (eulN x)), .int .u64 (l2 (eulN x)), .int .u64 (l3 (eulN x))], .int .i64 0]) ∧ Below w.heap.size w w' := fun w h => Exp_good K hx nh w h
  have P4 := fun w b h hs => smul_any (b := b) K hx hy w h hs
  have Z2 := fun w h => Residue_any (modN_Num hf (x * y)) w h
  have Z3 := fun w h => Residue_any hy w h
  have ri := root_is hx.1
  have P3 : modN pN (powN pN x qN * powN pN x qN) = modN pN x → ∀ w b, Mds w → Smm w b 0 → Calls Tryd.prog 24 #[.pointer (some ⟨b, 0, none⟩), .agg #[.int .u64 (l0 (rootN x)), .int .u64 (l1 (rootN x)), .int .u64 (l2 (rootN x)), .int .u64 (l3 (rootN x))], .agg #[.int .u64 (l0 (rootN x)), .int .u64 (l1 (rootN x)), .int .u64 (l2 (rootN x)), .int .u64 (l3 (rootN x))]] w fun e w' => e = .returned (.agg #[.int .u64 (l0 (modN pN x)), .int .u64 (l1 (modN pN x)), .int .u64 (l2 (modN pN x)), .int .u64 (l3 (modN pN x))]) ∧ Below w.heap.size w w' := fun hr w b h hs => by
    have nx : Num (rootN x) := by
      unfold rootN; rw [if_pos hr]
      obtain ⟨_, e1, e2, _⟩ := even_one (powN_lt hf x qN).1 (powN_lt hf x qN).2
      exact ⟨e1, by have := hf.num.2; omega⟩
    have := smul_any K nx nx w h hs; rw [root_back hr] at this; exact this
  have R2 : ∀ e, rootE x = e → ∀ w, Mds w → Calls Tryd.prog 31 #[.agg #[.int .u64 (l0 x), .int .u64 (l1 x), .int .u64 (l2 x), .int .u64 (l3 x)]] w fun e' w' => e' = .returned (.tuple #[.agg #[.int .u64 (l0 (rootN x)), .int .u64 (l1 (rootN x)), .int .u64 (l2 (rootN x)), .int .u64 (l3 (rootN x))], .int .i64 e]) ∧ Below w.heap.size w w' := fun e he w h => by
    have := Root_any hx w h; rw [he] at this; exact this
  have Z1 : ∀ e, resN x = e → ∀ w, Mds w → Calls Tryd.prog 33 #[.agg #[.int .u64 (l0 x), .int .u64 (l1 x), .int .u64 (l2 x), .int .u64 (l3 x)]] w fun e' w' => e' = .returned (.int .i64 e) ∧ Below w.heap.size w w' := fun e he w h => by
    have := Residue_any hx w h; rw [he] at this; exact this
  have Q : ∀ {a b : Int}, Num a → Num b → ∀ v : Bool, decide (a = b) = v → ∀ w, (Op.equalIn 10000 30 (.agg #[.int .u64 (l0 a), .int .u64 (l1 a), .int .u64 (l2 a), .int .u64 (l3 a)]) (.agg #[.int .u64 (l0 b), .int .u64 (l1 b), .int .u64 (l2 b), .int .u64 (l3 b)])).run Tryd.prog w = .ok v w := fun ha hb v hv w => by rw [eq_num ha hb, hv]
  have Q0 : ∀ v : Bool, decide (modN pN x = 0) = v → ∀ w, (Op.equalIn 10000 30 (.agg #[.int .u64 (l0 (modN pN x)), .int .u64 (l1 (modN pN x)), .int .u64 (l2 (modN pN x)), .int .u64 (l3 (modN pN x))]) (.agg #[.int .u64 0, .int .u64 0, .int .u64 0, .int .u64 0])).run Tryd.prog w = .ok v w := fun v hv w => by rw [eq_zero' npl, hv]
  by_cases hz : modN pN x = 0
  · have he := eul_none hz
    have hr := ri.2 (.inl hz)
    have hR : rootN (modN pN (x * x)) = modN pN x := by
      rcases sR with h | h
      · exact h
      · rw [hz] at h ⊢
        by_cases hn : rootN (modN pN (x * x)) = 0
        · exact hn
        · exfalso
          have e : modN pN (0 - rootN (modN pN (x * x))) = pN - rootN (modN pN (x * x)) := by
            unfold modN
            rw [show 0 - rootN (x * x % pN) = pN - rootN (x * x % pN) + pN * (-1) by omega, Int.add_mul_emod_self_left]
            unfold modN at s0 s1 hn
            exact Int.emod_eq_of_lt (by omega) (by omega)
          rw [e] at h; omega
    exact fsquares_0t O1 P1 R1 N1 F1 P2 B1 C1 (R2 0 (by unfold rootE; rw [if_pos hr])) (Z1 0 (by unfold resN; rw [if_pos he])) (P3 hr) S1 H1 X1 P4 Z2 Z3 (res_zero he) (Q nr npl true (decide_eq_true hR)) (Q neu n1 false (by rw [he]; decide)) (Q neu nl false (by rw [he]; decide)) (Q0 true (decide_eq_true hz)) w hm
  · have q0 : ∀ w, _ := Q0 false (decide_eq_false hz)
    rcases eul_some hx.1 hz with he | he
    · have hr := ri.2 (.inr he)
      have a1 := R2 0 (by unfold rootE; rw [if_pos hr])
      have a2 := Z1 1 (by unfold resN; rw [he]; decide)
      by_cases hR : rootN (modN pN (x * x)) = modN pN x
      · exact fsquares_1t O1 P1 R1 N1 F1 P2 B1 C1 a1 a2 (P3 hr) S1 H1 X1 P4 Z2 Z3 (res_one hy.1 he) (Q nr npl true (decide_eq_true hR)) (Q neu n1 true (by rw [he]; decide)) (Q neu nl false (by rw [he]; decide)) q0 w hm
      · have hM : modN pN (0 - rootN (modN pN (x * x))) = modN pN x := by
          rcases sR with h | h
          · exact absurd h hR
          · exact h
        exact fsquares_1f O1 P1 R1 N1 F1 P2 B1 C1 a1 a2 (P3 hr) S1 H1 X1 P4 Z2 Z3 (res_one hy.1 he) (Q nr npl false (decide_eq_false hR)) (Q nmn npl true (decide_eq_true hM)) (Q neu n1 true (by rw [he]; decide)) (Q neu nl false (by rw [he]; decide)) q0 w hm
    · have hn : ¬ modN pN (powN pN x qN * powN pN x qN) = modN pN x := by
        rw [ri, he]
        rintro (h2 | h2)
        · exact hz h2
        · exact absurd h2 (by decide)
      have a1 := R2 41 (by unfold rootE; rw [if_neg hn])
      have a2 := Z1 (-1) (by unfold resN; rw [he]; decide)
      by_cases hR : rootN (modN pN (x * x)) = modN pN x
      · exact fsquares_2t O1 P1 R1 N1 F1 P2 B1 C1 a1 a2 S1 H1 X1 P4 Z2 Z3 (res_minus hy.1 he) (Q nr npl true (decide_eq_true hR)) (Q neu n1 false (by rw [he]; decide)) (Q neu nl true (by rw [he]; decide)) q0 w hm
      · have hM : modN pN (0 - rootN (modN pN (x * x))) = modN pN x := by
          rcases sR with h | h
          · exact absurd h hR
          · exact h
        exact fsquares_2f O1 P1 R1 N1 F1 P2 B1 C1 a1 a2 S1 H1 X1 P4 Z2 Z3 (res_minus hy.1 he) (Q nr npl false (decide_eq_false hR)) (Q nmn npl true (decide_eq_true hM)) (Q neu n1 false (by rw [he]; decide)) (Q neu nl true (by rw [he]; decide)) q0 w hm
end Go.Proofs.YtfpiopjlcjckeaaDoor

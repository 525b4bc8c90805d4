import Derived.Test.YtifenjinbjlfdaaDoorUtH
import Derived.Test.YtifenjinbjlfdaaDoorUtE
import Derived.Test.YtifenjinbjlfdaaDoorUtF
/- The law U256Texts. -/
namespace Go.Proofs.YtifenjinbjlfdaaDoor
open Go.RowKit Go.Sort

theorem tnum_any (v : Int) (w : World) : Calls Tryd.prog 6 #[.int .i64 v] w fun e w' => e = .returned (.int .i64 v) ∧ Below w.heap.size w w' := by
  go_enter Tryd.func6, Tryd.ntmps6
  go_wp2
  simp [bodyPost, results, Tryd.results6, go_sem]
  exact Below.refl _ _
set_option maxRecDepth 100000 in
set_option maxHeartbeats 4000000 in
theorem texts_any {x : Int} {s : ByteArray} (hx : Num x) (hs : s.size ≤ 9223372036854775807) (w : World) (hp : Pws w) : Calls Tryd.prog 3 #[.agg #[.int .u64 (l0 x), .int .u64 (l1 x), .int .u64 (l2 x), .int .u64 (l3 x)], .string s] w fun e w' => e = .returned (.bool true) ∧ Below w.heap.size w w' := by
  obtain ⟨k, hk, hk2⟩ := len_num hx
  have P1 : Hid (∀ w, Pws w → Calls Tryd.prog 4 #[.string s] w fun e w' => e = .returned (.tuple #[.agg #[.int .u64 (l0 (pv s)), .int .u64 (l1 (pv s)), .int .u64 (l2 (pv s)), .int .u64 (l3 (pv s))], .int .i64 (pe s)]) ∧ Below w.heap.size w w') := fun w h => parse_all hs w h
  have P2 : Hid (∀ w, Calls Tryd.prog 5 #[.string s] w fun e w' => e = .returned (.tuple #[.agg #[.int .u64 (l0 (pv s)), .int .u64 (l1 (pv s)), .int .u64 (l2 (pv s)), .int .u64 (l3 (pv s))], .int .i64 (pe s)]) ∧ Below w.heap.size w w') := fun w => rparse_all hs w
  have T1 : Hid (∀ w, Pws w → Calls Tryd.prog 7 #[.agg #[.int .u64 (l0 x), .int .u64 (l1 x), .int .u64 (l2 x), .int .u64 (l3 x)]] w fun e w' => e = .returned (.string ⟨(tx x k).toArray⟩) ∧ Below w.heap.size w w') := fun w h => text_walk hx hk hk2 w h
  have T2 : Hid (∀ w, Calls Tryd.prog 8 #[.agg #[.int .u64 (l0 x), .int .u64 (l1 x), .int .u64 (l2 x), .int .u64 (l3 x)]] w fun e w' => e = .returned (.string ⟨(tx x k).toArray⟩) ∧ Below w.heap.size w w') := fun w => rtext_walk hx hk hk2 w
  have ep := eq_num (pv_num s) (pv_num s)
  rw [decide_eq_true rfl] at ep
  generalize pv s = v at *
  generalize pe s = f at *
  generalize (tx x k).toArray = t at *
  clear hk hk2 hx hs
  go_enter Tryd.func3, Tryd.ntmps3
  go_wp2_with fail
  with_reducible refine (P1.out _ (hp.alloc _)).mono ?_
  rintro e1 w1 ⟨rfl, hb⟩
  have B1 : Below w.heap.size w w1 := ((Below.refl _ _).alloc (Nat.le_refl _) _).trans (hb.mono (by simp))
  have hX : Hold w1 w.heap.size x := (Hold.new w x _).keep hb
  have hW : Pws w1 := (hp.alloc _).keep hb
  clear hb P1
  go_wp2_with fail
  refine calls_world (fun W => Below w.heap.size w W ∧ Pws W ∧ Hold W w.heap.size x ∧ Hold W w1.heap.size v) ⟨B1.alloc B1.size _, hW.alloc _, hX.alloc _, Hold.new _ _ _⟩ ?_
  clear B1 hW hX
  rintro W ⟨B, hW, hX, hV⟩
  generalize w1.heap.size = b1 at *
  with_reducible refine (P2.out _).mono ?_
  rintro e1 w2 ⟨rfl, hb⟩
  replace B := B.trans (hb.mono B.size); replace hW := hW.keep hb; replace hX := hX.keep hb; replace hV := hV.keep hb
  clear hb P2 W
  go_wp2_with fail
  refine wp_world (fun W => Below w.heap.size w W ∧ Pws W ∧ Hold W w.heap.size x ∧ Hold W b1 v ∧ Hold W w2.heap.size v) ⟨B.alloc B.size _, hW.alloc _, hX.alloc _, hV.alloc _, Hold.new _ _ _⟩ ?_
  clear B hW hX hV
  rintro W ⟨B, hW, hX, hV, hU⟩
  generalize w2.heap.size = b2 at *
  have gX := hX.grown; have gV := hV.grown; have gU := hU.grown
  have hWg : ∀ d os, Pws (grow (redrawn W d) os) := fun d os => hW.keep (below_regrown W d os)
  have HB : Hid (Below w.heap.size w W) := B
  clear B hW hX hV hU
  refine wp_region_quiet_below (by kernel_rfl) (by kernel_rfl) ?_
  repeat
    first
      | go_big_quiet_skip
      | (go_big_quiet_want; go_big_quiet_op; go_big_quiet_on)
      | (go_big_quiet_want
         go_big_quiet_op
         apply Exists.intro
         refine ⟨fun p => ?_, ?_⟩
         · (first | (go_at_call 6; with_reducible exact Calls.regrown_of (tnum_any f _)) | (go_at_call 7; with_reducible exact Calls.regrown_of (T1.out _ (hWg p.d p.os))) | (go_at_call 8; with_reducible exact Calls.regrown_of (T2.out _)))
         go_big_quiet_on)
  refine wpQuiet_nil ?_
  rintro w9 ⟨p, rfl⟩
  have hb := below_regrown W p.d p.os
  have B9 : Below w.heap.size w (grow (redrawn W p.d) p.os) := HB.out.trans (hb.mono HB.out.size)
  generalize grow (redrawn W p.d) p.os = w9 at *
  go_wp2
  go_ret
  exact ⟨by first | rfl | simp, B9⟩
end Go.Proofs.YtifenjinbjlfdaaDoor

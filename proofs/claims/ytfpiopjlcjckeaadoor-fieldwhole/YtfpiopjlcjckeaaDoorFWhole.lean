import Derived.Test.YtfpiopjlcjckeaaDoorFUn
import Derived.Test.YtfpiopjlcjckeaaDoorAddMods
import Derived.Test.YtfpiopjlcjckeaaDoorFKind
namespace Go.Proofs.YtfpiopjlcjckeaaDoor
open Go.RowKit Go.Sort

set_option maxRecDepth 100000 in
set_option maxHeartbeats 8000000 in
theorem fwhole_walk {v k x y m r1 r2 r3 : Int} (K0 : Hid (∀ w, Calls Tryd.prog 9 #[.int .i64 v] w fun e w' => e = .returned (.int .i64 k) ∧ Below w.heap.size w w'))
    (O1 : Hid (∀ w, Mds w → Calls Tryd.prog 15 #[.int .i64 k] w fun e w' => e = .returned (.tuple #[.agg #[.int .u64 (l0 m), .int .u64 (l1 m), .int .u64 (l2 m), .int .u64 (l3 m)], .int .i64 0]) ∧ Below w.heap.size w w')) (O2 : Hid (∀ w, Mds w → Calls Tryd.prog 16 #[.int .i64 k, .agg #[.int .u64 (l0 x), .int .u64 (l1 x), .int .u64 (l2 x), .int .u64 (l3 x)], .agg #[.int .u64 (l0 y), .int .u64 (l1 y), .int .u64 (l2 y), .int .u64 (l3 y)]] w fun e w' => e = .returned (.tuple #[.agg #[.int .u64 (l0 r1), .int .u64 (l1 r1), .int .u64 (l2 r1), .int .u64 (l3 r1)], .int .i64 0]) ∧ Below w.heap.size w w')) (O3 : Hid (∀ w, Calls Tryd.prog 17 #[.agg #[.int .u64 (l0 x), .int .u64 (l1 x), .int .u64 (l2 x), .int .u64 (l3 x)], .agg #[.int .u64 (l0 y), .int .u64 (l1 y), .int .u64 (l2 y), .int .u64 (l3 y)], .agg #[.int .u64 (l0 m), .int .u64 (l1 m), .int .u64 (l2 m), .int .u64 (l3 m)]] w fun e w' => e = .returned (.tuple #[.agg #[.int .u64 (l0 r1), .int .u64 (l1 r1), .int .u64 (l2 r1), .int .u64 (l3 r1)], .int .i64 0]) ∧ Below w.heap.size w w'))
    (O4 : Hid (∀ w, Mds w → Calls Tryd.prog 18 #[.int .i64 k, .agg #[.int .u64 (l0 x), .int .u64 (l1 x), .int .u64 (l2 x), .int .u64 (l3 x)], .agg #[.int .u64 (l0 y), .int .u64 (l1 y), .int .u64 (l2 y), .int .u64 (l3 y)]] w fun e w' => e = .returned (.tuple #[.agg #[.int .u64 (l0 r2), .int .u64 (l1 r2), .int .u64 (l2 r2), .int .u64 (l3 r2)], .int .i64 0]) ∧ Below w.heap.size w w')) (O5 : Hid (∀ w, Calls Tryd.prog 19 #[.agg #[.int .u64 (l0 x), .int .u64 (l1 x), .int .u64 (l2 x), .int .u64 (l3 x)], .agg #[.int .u64 (l0 y), .int .u64 (l1 y), .int .u64 (l2 y), .int .u64 (l3 y)], .agg #[.int .u64 (l0 m), .int .u64 (l1 m), .int .u64 (l2 m), .int .u64 (l3 m)]] w fun e w' => e = .returned (.tuple #[.agg #[.int .u64 (l0 r2), .int .u64 (l1 r2), .int .u64 (l2 r2), .int .u64 (l3 r2)], .int .i64 0]) ∧ Below w.heap.size w w'))
    (O6 : Hid (∀ w, Mds w → Calls Tryd.prog 20 #[.int .i64 k, .agg #[.int .u64 (l0 x), .int .u64 (l1 x), .int .u64 (l2 x), .int .u64 (l3 x)], .agg #[.int .u64 (l0 y), .int .u64 (l1 y), .int .u64 (l2 y), .int .u64 (l3 y)]] w fun e w' => e = .returned (.tuple #[.agg #[.int .u64 (l0 r3), .int .u64 (l1 r3), .int .u64 (l2 r3), .int .u64 (l3 r3)], .int .i64 0]) ∧ Below w.heap.size w w')) (O7 : Hid (∀ w, Calls Tryd.prog 21 #[.agg #[.int .u64 (l0 x), .int .u64 (l1 x), .int .u64 (l2 x), .int .u64 (l3 x)], .agg #[.int .u64 (l0 y), .int .u64 (l1 y), .int .u64 (l2 y), .int .u64 (l3 y)], .agg #[.int .u64 (l0 m), .int .u64 (l1 m), .int .u64 (l2 m), .int .u64 (l3 m)]] w fun e w' => e = .returned (.tuple #[.agg #[.int .u64 (l0 r3), .int .u64 (l1 r3), .int .u64 (l2 r3), .int .u64 (l3 r3)], .int .i64 0]) ∧ Below w.heap.size w w'))
    (O8 : Hid (∀ w, Mds w → Calls Tryd.prog 18 #[.int .i64 k, .agg #[.int .u64 1, .int .u64 0, .int .u64 0, .int .u64 0], .agg #[.int .u64 1, .int .u64 0, .int .u64 0, .int .u64 0]] w fun e w' => e = .returned (.tuple #[.agg #[.int .u64 1, .int .u64 0, .int .u64 0, .int .u64 0], .int .i64 0]) ∧ Below w.heap.size w w')) (w : World) (hm : Mds w) :
    Calls Tryd.prog 4 #[.int .i64 v, .agg #[.int .u64 (l0 x), .int .u64 (l1 x), .int .u64 (l2 x), .int .u64 (l3 x)], .agg #[.int .u64 (l0 y), .int .u64 (l1 y), .int .u64 (l2 y), .int .u64 (l3 y)]] w fun e w' => e = .returned (.bool true) ∧ Below w.heap.size w w' := by
  have ey : ∀ n w, (Op.equalIn 10000 30 (.agg #[.int .u64 (l0 n), .int .u64 (l1 n), .int .u64 (l2 n), .int .u64 (l3 n)]) (.agg #[.int .u64 (l0 n), .int .u64 (l1 n), .int .u64 (l2 n), .int .u64 (l3 n)])).run Tryd.prog w = .ok true w := fun n w => eq_yes w
  have eo : ∀ w, (Op.equalIn 10000 30 (.agg #[.int .u64 1, .int .u64 0, .int .u64 0, .int .u64 0]) (.agg #[.int .u64 1, .int .u64 0, .int .u64 0, .int .u64 0])).run Tryd.prog w = .ok true w := fun w => by rw [eq_any]; rfl
  go_enter Tryd.func4, Tryd.ntmps4
  go_wp2_with fail
  refine calls_world (fun W => Below w.heap.size w W ∧ Mds W ∧ Hold W w.heap.size x ∧ Hold W (w.heap.size + 1) y) ⟨by repeat (first | with_reducible exact Below.refl _ _ | with_reducible refine Below.alloc ?_ (by first | omega | (simp; done) | (simp; omega)) _), (hm.alloc _).alloc _, (Hold.fresh (by simp)).alloc _, Hold.fresh (by simp)⟩ ?_
  rintro W ⟨B, hD, hX, hY⟩
  generalize w.heap.size + 1 = bw at *
  with_reducible refine (K0.out _).mono ?_
  rintro e w1 ⟨rfl, hb⟩
  replace B := B.trans (hb.mono B.size)
  replace hD := hD.keep hb; replace hX := hX.keep hb; replace hY := hY.keep hb
  clear hb W
  go_wp2_with fail
  refine calls_world (fun W => Below w.heap.size w W ∧ Mds W ∧ Hold W w.heap.size x ∧ Hold W bw y) ⟨B, hD, hX, hY⟩ ?_
  clear B hD hX hY 
  rintro W ⟨B, hD, hX, hY⟩
  with_reducible refine (O1.out _ hD).mono ?_
  rintro e w2 ⟨rfl, hb⟩
  replace B := B.trans (hb.mono B.size)
  replace hD := hD.keep hb; replace hX := hX.keep hb; replace hY := hY.keep hb
  clear hb W
  have ghX := hX.allocs
  have ghY := hY.allocs
  go_wp2_with fail
  refine calls_world (fun W => Below w.heap.size w W ∧ Mds W ∧ Hold W w.heap.size x ∧ Hold W bw y ∧ Hold W w2.heap.size m) ⟨B.alloc B.size _, hD.alloc _, hX.alloc _, hY.alloc _, Hold.new _ _ _⟩ ?_
  clear B hD hX hY ghX ghY
  rintro W ⟨B, hD, hX, hY, hM⟩
  generalize w2.heap.size = bm at *
  with_reducible refine (O2.out _ hD).mono ?_
  rintro e w3 ⟨rfl, hb⟩
  replace B := B.trans (hb.mono B.size)
  replace hD := hD.keep hb; replace hX := hX.keep hb; replace hY := hY.keep hb; replace hM := hM.keep hb
  clear hb W
  have ghX := hX.allocs
  have ghY := hY.allocs
  have ghM := hM.allocs
  go_wp2_with fail
  refine calls_world (fun W => Below w.heap.size w W ∧ Mds W ∧ Hold W w.heap.size x ∧ Hold W bw y ∧ Hold W bm m ∧ Hold W w3.heap.size r1) ⟨B.alloc B.size _, hD.alloc _, hX.alloc _, hY.alloc _, hM.alloc _, Hold.new _ _ _⟩ ?_
  clear B hD hX hY hM ghX ghY ghM
  rintro W ⟨B, hD, hX, hY, hM, hA⟩
  generalize w3.heap.size = ba at *
  with_reducible refine (O3.out _).mono ?_
  rintro e w4 ⟨rfl, hb⟩
  replace B := B.trans (hb.mono B.size)
  replace hD := hD.keep hb; replace hX := hX.keep hb; replace hY := hY.keep hb; replace hM := hM.keep hb; replace hA := hA.keep hb
  clear hb W
  have ghX := hX.allocs
  have ghY := hY.allocs
  go_wp2_with fail
  refine calls_world (fun W => Below w.heap.size w W ∧ Mds W ∧ Hold W w.heap.size x ∧ Hold W bw y ∧ Hold W bm m ∧ Hold W ba r1 ∧ Hold W w4.heap.size r1) ⟨B.alloc B.size _, hD.alloc _, hX.alloc _, hY.alloc _, hM.alloc _, hA.alloc _, Hold.new _ _ _⟩ ?_
  clear B hD hX hY hM hA ghX ghY
  rintro W ⟨B, hD, hX, hY, hM, hA, hB⟩
  generalize w4.heap.size = bb at *
  with_reducible refine (O4.out _ hD).mono ?_
  rintro e w5 ⟨rfl, hb⟩
  replace B := B.trans (hb.mono B.size)
  replace hD := hD.keep hb; replace hX := hX.keep hb; replace hY := hY.keep hb; replace hM := hM.keep hb; replace hA := hA.keep hb; replace hB := hB.keep hb
  clear hb W
  have ghX := hX.allocs
  have ghY := hY.allocs
  have ghM := hM.allocs
  go_wp2_with fail
  refine calls_world (fun W => Below w.heap.size w W ∧ Mds W ∧ Hold W w.heap.size x ∧ Hold W bw y ∧ Hold W bm m ∧ Hold W ba r1 ∧ Hold W bb r1 ∧ Hold W w5.heap.size r2) ⟨B.alloc B.size _, hD.alloc _, hX.alloc _, hY.alloc _, hM.alloc _, hA.alloc _, hB.alloc _, Hold.new _ _ _⟩ ?_
  clear B hD hX hY hM hA hB ghX ghY ghM
  rintro W ⟨B, hD, hX, hY, hM, hA, hB, hC⟩
  generalize w5.heap.size = bc at *
  with_reducible refine (O5.out _).mono ?_
  rintro e w6 ⟨rfl, hb⟩
  replace B := B.trans (hb.mono B.size)
  replace hD := hD.keep hb; replace hX := hX.keep hb; replace hY := hY.keep hb; replace hM := hM.keep hb; replace hA := hA.keep hb; replace hB := hB.keep hb; replace hC := hC.keep hb
  clear hb W
  have ghX := hX.allocs
  have ghY := hY.allocs
  go_wp2_with fail
  refine calls_world (fun W => Below w.heap.size w W ∧ Mds W ∧ Hold W w.heap.size x ∧ Hold W bw y ∧ Hold W bm m ∧ Hold W ba r1 ∧ Hold W bb r1 ∧ Hold W bc r2 ∧ Hold W w6.heap.size r2) ⟨B.alloc B.size _, hD.alloc _, hX.alloc _, hY.alloc _, hM.alloc _, hA.alloc _, hB.alloc _, hC.alloc _, Hold.new _ _ _⟩ ?_
  clear B hD hX hY hM hA hB hC ghX ghY
  rintro W ⟨B, hD, hX, hY, hM, hA, hB, hC, hE⟩
  generalize w6.heap.size = be at *
  with_reducible refine (O6.out _ hD).mono ?_
  rintro e w7 ⟨rfl, hb⟩
  replace B := B.trans (hb.mono B.size)
  replace hD := hD.keep hb; replace hX := hX.keep hb; replace hY := hY.keep hb; replace hM := hM.keep hb; replace hA := hA.keep hb; replace hB := hB.keep hb; replace hC := hC.keep hb; replace hE := hE.keep hb
  clear hb W
  have ghX := hX.allocs
  have ghY := hY.allocs
  have ghM := hM.allocs
  go_wp2_with fail
  refine calls_world (fun W => Below w.heap.size w W ∧ Mds W ∧ Hold W w.heap.size x ∧ Hold W bw y ∧ Hold W bm m ∧ Hold W ba r1 ∧ Hold W bb r1 ∧ Hold W bc r2 ∧ Hold W be r2 ∧ Hold W w7.heap.size r3) ⟨B.alloc B.size _, hD.alloc _, hX.alloc _, hY.alloc _, hM.alloc _, hA.alloc _, hB.alloc _, hC.alloc _, hE.alloc _, Hold.new _ _ _⟩ ?_
  clear B hD hX hY hM hA hB hC hE ghX ghY ghM
  rintro W ⟨B, hD, hX, hY, hM, hA, hB, hC, hE, hG⟩
  generalize w7.heap.size = bg at *
  with_reducible refine (O7.out _).mono ?_
  rintro e w8 ⟨rfl, hb⟩
  replace B := B.trans (hb.mono B.size)
  replace hD := hD.keep hb; replace hX := hX.keep hb; replace hY := hY.keep hb; replace hM := hM.keep hb; replace hA := hA.keep hb; replace hB := hB.keep hb; replace hC := hC.keep hb; replace hE := hE.keep hb; replace hG := hG.keep hb
  clear hb W
  go_wp2_with fail
  refine calls_world (fun W => Below w.heap.size w W ∧ Mds W ∧ Hold W w.heap.size x ∧ Hold W bw y ∧ Hold W bm m ∧ Hold W ba r1 ∧ Hold W bb r1 ∧ Hold W bc r2 ∧ Hold W be r2 ∧ Hold W bg r3 ∧ Hold W w8.heap.size r3) ⟨B.alloc B.size _, hD.alloc _, hX.alloc _, hY.alloc _, hM.alloc _, hA.alloc _, hB.alloc _, hC.alloc _, hE.alloc _, hG.alloc _, Hold.new _ _ _⟩ ?_
  clear B hD hX hY hM hA hB hC hE hG 
  rintro W ⟨B, hD, hX, hY, hM, hA, hB, hC, hE, hG, hH⟩
  generalize w8.heap.size = bh at *
  with_reducible refine (O8.out _ hD).mono ?_
  rintro e w9 ⟨rfl, hb⟩
  replace B := B.trans (hb.mono B.size)
  replace hD := hD.keep hb; replace hX := hX.keep hb; replace hY := hY.keep hb; replace hM := hM.keep hb; replace hA := hA.keep hb; replace hB := hB.keep hb; replace hC := hC.keep hb; replace hE := hE.keep hb; replace hG := hG.keep hb; replace hH := hH.keep hb
  clear hb W
  have ghA := hA.allocs
  have ghB := hB.allocs
  have ghC := hC.allocs
  have ghE := hE.allocs
  have ghG := hG.allocs
  have ghH := hH.allocs
  have BB : Hid (∀ o, Below w.heap.size w (w9.alloc o)) := fun o => B.alloc B.size o
  clear B hD hX hY hM hA hB hC hE hG hH
  go_wp2
  simp [bodyPost, results, Tryd.results4, go_sem]
  exact BB.out _

theorem fwhole_any {v x y : Int} (hx : Num x) (hy : Num y) (w : World) (hm : Mds w) :
    Calls Tryd.prog 4 #[.int .i64 v, .agg #[.int .u64 (l0 x), .int .u64 (l1 x), .int .u64 (l2 x), .int .u64 (l3 x)], .agg #[.int .u64 (l0 y), .int .u64 (l1 y), .int .u64 (l2 y), .int .u64 (l3 y)]] w fun e w' => e = .returned (.bool true) ∧ Below w.heap.size w w' := by
  obtain ⟨k, m, c, K, hk⟩ := fkind_kind v
  have nm := K.fit.num
  have zm : m ≠ 0 := by have := K.fit.pos'; omega
  have n1 : Num 1 := ⟨by decide, by decide⟩
  refine fwhole_walk hk (fun w h => Modulus_good K w h) (fun w h => Add_good K hx hy w h) ?_ (fun w h => Mul_good K hx hy w h) ?_ (fun w h => Reduce_good K hx hy w h) ?_ ?_ w hm
  · refine addMod_walk hx hy fun w => ?_
    have := reduce_any (h := carN x y) (by obtain ⟨a, b⟩ := carN_word hx hy; exact ⟨a, by omega⟩) (sumN_Num x y) nm zm w
    have e : sumN x y + carN x y * 115792089237316195423570985008687907853269984665640564039457584007913129639936 = x + y := by unfold sumN carN; omega
    rw [e] at this
    exact this
  · refine mulMod_walk hx hy fun w => ?_
    have := reduce_any (hiN_Num hx hy) (loN_Num x y) nm zm w
    have e : loN x y + hiN x y * 115792089237316195423570985008687907853269984665640564039457584007913129639936 = x * y := by unfold loN hiN; generalize x * y = p; omega
    rw [e] at this
    exact this
  · intro w
    have := reduce_any hx hy nm zm w
    have e : y + x * 115792089237316195423570985008687907853269984665640564039457584007913129639936 = wideN x y := by unfold wideN; omega
    rw [e] at this
    exact this
  · intro w h
    have := Mul_good K n1 n1 w h
    have e : modN m (1 * 1) = 1 := by unfold modN; have := K.fit.low; exact Int.emod_eq_of_lt (by decide) (by omega)
    rw [e, show l0 1 = 1 from rfl, show l1 1 = 0 from rfl, show l2 1 = 0 from rfl, show l3 1 = 0 from rfl] at this
    exact this
end Go.Proofs.YtfpiopjlcjckeaaDoor

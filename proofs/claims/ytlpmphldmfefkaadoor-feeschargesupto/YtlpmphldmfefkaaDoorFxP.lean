import Derived.Test.YtlpmphldmfefkaaDoorTxPs
import Derived.Test.YtlpmphldmfefkaaDoorMulNum
import Derived.Test.YtlpmphldmfefkaaDoorQAlloc
import Derived.Test.YtlpmphldmfefkaaDoorMul2
import Derived.Test.YtlpmphldmfefkaaDoorShl
import Derived.Test.YtlpmphldmfefkaaDoorTsG
import Derived.Test.YtlpmphldmfefkaaDoorTsE
import Derived.Test.YtlpmphldmfefkaaDoorRefAddSub
import Derived.Test.YtlpmphldmfefkaaDoorRefMul
import Derived.Test.YtlpmphldmfefkaaDoorRef1
import Derived.Deep.RegionHeld3
/- Layer 18: BlobGas of both sides; the document's sum, product, most. -/
namespace Go.Proofs.YtlpmphldmfefkaaDoor
open Go.RowKit Go.Sort
open tq
set_option maxHeartbeats 2000000 in
theorem rsumF_walk {x y s k : Int} {t : Bool} (A : Hid (∀ w, Calls Tryd.prog 62 #[.agg #[.int .u64 (l0 x), .int .u64 (l1 x), .int .u64 (l2 x), .int .u64 (l3 x)], .agg #[.int .u64 (l0 y), .int .u64 (l1 y), .int .u64 (l2 y), .int .u64 (l3 y)]] w fun e w' => e = .returned (.tuple #[.agg #[.int .u64 (l0 s), .int .u64 (l1 s), .int .u64 (l2 s), .int .u64 (l3 s)], .int .u64 k]) ∧ Below w.heap.size w w')) (hk : (k == 0) = t) (w : World) :
    Calls Tryd.prog 63 #[.agg #[.int .u64 (l0 x), .int .u64 (l1 x), .int .u64 (l2 x), .int .u64 (l3 x)], .agg #[.int .u64 (l0 y), .int .u64 (l1 y), .int .u64 (l2 y), .int .u64 (l3 y)]] w fun e w' => e = .returned (.tuple #[.agg #[.int .u64 (l0 s), .int .u64 (l1 s), .int .u64 (l2 s), .int .u64 (l3 s)], .bool t]) ∧ Below w.heap.size w w' := by
  go_enter Tryd.func63, Tryd.ntmps63
  go_wp2_with fail
  refine calls_world (fun W => Below w.heap.size w W ∧ Blank W (w.heap.size + 1 + 1)) ⟨by repeat (first | with_reducible exact Below.refl _ _ | with_reducible refine Below.alloc ?_ (by first | omega | (simp; done) | (simp; omega)) _), Blank.new (by simp)⟩ ?_
  rintro W ⟨B, hR⟩
  have o1 : w.heap.size ≤ w.heap.size + 1 + 1 := by omega
  generalize w.heap.size + 1 + 1 = br at *
  with_reducible refine (A.out _).mono ?_
  rintro e w1 ⟨rfl, hb⟩
  replace B := B.trans (hb.mono B.size)
  replace hR := hR.keep hb
  clear hb W
  have gR := fun o => (hR.alloc o).1.all4; have fR := fun o => (hR.alloc o).2.all4
  have c1 : br ≠ w1.heap.size := by have := hR.1.lt (by simp); omega
  have c2 := c1.symm
  subst hk
  go_wp2
  simp [bodyPost, results, Tryd.results63, go_sem, gR]
  repeat (first | with_reducible exact B | with_reducible refine Below.drew ?_ | with_reducible refine Below.setCell ?_ o1 _ | with_reducible refine Below.alloc ?_ (by first | exact B.size | omega | (simp; done) | (simp; omega)) _)

set_option maxHeartbeats 4000000 in
theorem rproductF_walk {x y h l : Int} {t : Bool} (MU : Hid (∀ w, Calls Tryd.prog 78 #[.agg #[.int .u64 (l0 x), .int .u64 (l1 x), .int .u64 (l2 x), .int .u64 (l3 x)], .agg #[.int .u64 (l0 y), .int .u64 (l1 y), .int .u64 (l2 y), .int .u64 (l3 y)]] w fun e w' => e = .returned (.tuple #[.agg #[.int .u64 (l0 h), .int .u64 (l1 h), .int .u64 (l2 h), .int .u64 (l3 h)], .agg #[.int .u64 (l0 l), .int .u64 (l1 l), .int .u64 (l2 l), .int .u64 (l3 l)]]) ∧ Below w.heap.size w w')) (he : ∀ w, (Op.equalIn 10000 24 (.agg #[.int .u64 (l0 h), .int .u64 (l1 h), .int .u64 (l2 h), .int .u64 (l3 h)]) (.agg #[.int .u64 0, .int .u64 0, .int .u64 0, .int .u64 0])).run Tryd.prog w = .ok t w) (w : World) :
    Calls Tryd.prog 58 #[.agg #[.int .u64 (l0 x), .int .u64 (l1 x), .int .u64 (l2 x), .int .u64 (l3 x)], .agg #[.int .u64 (l0 y), .int .u64 (l1 y), .int .u64 (l2 y), .int .u64 (l3 y)]] w fun e w' => e = .returned (.tuple #[.agg #[.int .u64 (l0 l), .int .u64 (l1 l), .int .u64 (l2 l), .int .u64 (l3 l)], .bool t]) ∧ Below w.heap.size w w' := by
  have hz := build_zero
  go_enter Tryd.func58, Tryd.ntmps58
  go_wp2_with fail
  refine calls_world (fun W => Below w.heap.size w W ∧ Blank W (w.heap.size + 1 + 1)) ⟨by repeat (first | with_reducible exact Below.refl _ _ | with_reducible refine Below.alloc ?_ (by first | omega | (simp; done) | (simp; omega)) _), Blank.new (by simp)⟩ ?_
  rintro W ⟨B, hR⟩
  have o1 : w.heap.size ≤ w.heap.size + 1 + 1 := by omega
  generalize w.heap.size + 1 + 1 = br at *
  with_reducible refine (MU.out _).mono ?_
  rintro e w1 ⟨rfl, hb⟩
  replace B := B.trans (hb.mono B.size)
  replace hR := hR.keep hb
  clear hb W
  have e1 : w1.heap.size ≠ br := by have := hR.1.lt (by simp); omega
  have e2 : w1.heap.size + 1 ≠ br := by have := hR.1.lt (by simp); omega
  go_wp2_with fail
  refine wp_world (fun W => Below w.heap.size w W ∧ Blank W br ∧ Hold W w1.heap.size h ∧ Hold W (w1.heap.size + 1) l) ⟨(B.alloc B.size _).alloc (by have := B.size; simp; omega) _, (hR.alloc _).alloc _, (Hold.new _ _ _).alloc _, Hold.fresh (by simp)⟩ ?_
  clear B hR 
  rintro W ⟨B, hR, hH, hL⟩
  generalize w1.heap.size + 1 = bl at *
  generalize w1.heap.size = bh at *
  have gR := hR.1.all4; have fR := hR.2.all4; have gH := hH.cells; have gL := hL.cells
  have e3 := e1.symm; have e4 := e2.symm
  have BB : Hid (Below w.heap.size w W) := B
  clear B hH hL hR
  go_region_held3 (fun w' => w'.cell? ⟨bh, 0, none⟩ = some (.int .u64 (l0 h)) ∧ w'.cell? ⟨bh, 1, none⟩ = some (.int .u64 (l1 h)) ∧ w'.cell? ⟨bh, 2, none⟩ = some (.int .u64 (l2 h)) ∧ w'.cell? ⟨bh, 3, none⟩ = some (.int .u64 (l3 h)) ∧ w'.cell? ⟨bl, 0, none⟩ = some (.int .u64 (l0 l)) ∧ w'.cell? ⟨bl, 1, none⟩ = some (.int .u64 (l1 l)) ∧ w'.cell? ⟨bl, 2, none⟩ = some (.int .u64 (l2 l)) ∧ w'.cell? ⟨bl, 3, none⟩ = some (.int .u64 (l3 l))) (((try dsimp only); (repeat' (apply And.intro)); (all_goals repeat (first | with_reducible assumption | with_reducible apply cell_alloc | (with_reducible refine cell_set ?_ (by with_reducible assumption)) | (simp [go_sem, *]; done))))) (fail)
  all_goals go_wp2
  all_goals simp [bodyPost, results, Tryd.results58, go_sem, *]
  all_goals repeat (first | with_reducible exact BB.out | with_reducible refine Below.drew ?_ | with_reducible refine Below.setCell ?_ o1 _)

theorem rproductF_any {x y : Int} (hx : Num x) (hy : Num y) (w : World) :
    Calls Tryd.prog 58 #[.agg #[.int .u64 (l0 x), .int .u64 (l1 x), .int .u64 (l2 x), .int .u64 (l3 x)], .agg #[.int .u64 (l0 y), .int .u64 (l1 y), .int .u64 (l2 y), .int .u64 (l3 y)]] w fun e w' => e = .returned (.tuple #[.agg #[.int .u64 (l0 (loN x y)), .int .u64 (l1 (loN x y)), .int .u64 (l2 (loN x y)), .int .u64 (l3 (loN x y))], .bool (decide (x * y < 115792089237316195423570985008687907853269984665640564039457584007913129639936))]) ∧ Below w.heap.size w w' := by
  have h0 := mul_nonneg9 hx.1 hy.1
  have he : decide (hiN x y = 0) = decide (x * y < 115792089237316195423570985008687907853269984665640564039457584007913129639936) := by
    by_cases c : x * y < 115792089237316195423570985008687907853269984665640564039457584007913129639936
    · rw [decide_eq_true c, decide_eq_true (hi_zero h0 c).1]
    · rw [decide_eq_false c, decide_eq_false (hi_pos c)]
  rw [← he]
  exact rproductF_walk (fun w => rmul_any hx hy w) (fun w => eq_zeroT (hiN_Num hx hy) w) w
set_option maxRecDepth 100000 in
set_option maxHeartbeats 4000000 in
theorem rmost_any {t : Txv} (h20 : t.to.length = 20) (h0 : 0 ≤ t.ty) (w : World) :
    Calls Tryd.prog 61 #[.agg (txC t).toArray] w fun e w' => e = .returned (.agg #[.int .u64 (l0 (capT t)), .int .u64 (l1 (capT t)), .int .u64 (l2 (capT t)), .int .u64 (l3 (capT t))]) ∧ Below w.heap.size w w' := by
  have g0 := fun o => (txb_two (w := w) h20 32 o).ty
  have g1 := fun o => (txb_two (w := w) h20 32 o).pr
  have g2 := fun o => (txb_two (w := w) h20 32 o).ca
  have ec : capT t = if t.ty = 0 ∨ t.ty = 1 then t.pr else t.ca := rfl
  clear h20
  by_cases c : t.ty ≤ 1
  · rw [if_pos (by omega)] at ec
    rw [ec]
    generalize txC t = M at *
    generalize t.ty = x at *
    clear ec h0
    go_enter Tryd.func61, Tryd.ntmps61
    go_wp2
    simp [bodyPost, results, Tryd.results61, go_sem]
    repeat (first | with_reducible exact Below.refl _ _ | with_reducible refine Below.drew ?_ | with_reducible refine Below.setCell ?_ (by omega) _ | with_reducible refine Below.alloc ?_ (by first | omega | (simp; done) | (simp; omega)) _)
  · rw [if_neg (by omega)] at ec
    rw [ec]
    generalize txC t = M at *
    generalize t.ty = x at *
    clear ec h0
    go_enter Tryd.func61, Tryd.ntmps61
    go_wp2
    simp [bodyPost, results, Tryd.results61, go_sem]
    repeat (first | with_reducible exact Below.refl _ _ | with_reducible refine Below.drew ?_ | with_reducible refine Below.setCell ?_ (by omega) _ | with_reducible refine Below.alloc ?_ (by first | omega | (simp; done) | (simp; omega)) _)
end Go.Proofs.YtlpmphldmfefkaaDoor

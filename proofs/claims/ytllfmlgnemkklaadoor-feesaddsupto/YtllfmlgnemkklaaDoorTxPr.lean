import Derived.Test.YtllfmlgnemkklaaDoorTxZA
import Derived.Test.YtllfmlgnemkklaaDoorTxT
/- Layer 18: Price of the program. -/
namespace Go.Proofs.YtllfmlgnemkklaaDoor
open Go.RowKit Go.Sort
open tq
theorem base_at {w : World} {l : List Value} {T : TypeId} (o1 o2 o3 : Obj) : ((((w.alloc o1).alloc (.cells l.toArray T)).alloc o2).alloc o3).rangeAt (w.heap.size + 1) 0 l := fun j v hv => by
  have h1 : (w.alloc o1).heap.size = w.heap.size + 1 := World.size_alloc ..
  have e : ((w.alloc o1).alloc (.cells l.toArray T)).cell? ⟨w.heap.size + 1, 0 + j, none⟩ = some v := by
    rw [← h1, Nat.zero_add, World.cell?_alloc_mark]
    simpa using hv
  exact cell_keep (((Below.refl _ _).alloc (Nat.le_refl _) _).alloc (by first | (simp; done) | (simp; omega)) _) e
set_option maxRecDepth 100000 in
set_option maxHeartbeats 8000000 in
theorem price_bad {t : Txv} {b d : Int} (h20 : t.to.length = 20) (w : World) (nd : ¬ d = 0)
    (DR : Hid (∀ W, Below w.heap.size w W → Calls Tryd.prog 6 #[.agg (txC t).toArray] W fun e w' => e = .returned (.int .i64 d) ∧ Below W.heap.size W w')) :
    Calls Tryd.prog 20 #[.agg (txC t).toArray, .agg #[.int .u64 (l0 b), .int .u64 (l1 b), .int .u64 (l2 b), .int .u64 (l3 b)]] w fun e w' => e = .returned (.tuple #[.agg #[.int .u64 0, .int .u64 0, .int .u64 0, .int .u64 0], .agg #[.int .u64 0, .int .u64 0, .int .u64 0, .int .u64 0], .int .i64 d]) ∧ Below w.heap.size w w' := by
  have hz := build_zero
  have sz := size_tx h20
  have hb3 : ∀ o1 o2 o3, TxB ((((w.alloc (.cells (txC t).toArray 32)).alloc o1).alloc o2).alloc o3) w.heap.size t := fun o1 o2 o3 => (TxB.new h20).keep ((((Below.refl _ _).alloc (Nat.le_refl _) _).alloc (by simp) _).alloc (by first | (simp; done) | (simp; omega)) _)
  have rB := fun o1 o2 o3 => (hb3 o1 o2 o3).all
  have HB3 : Hid (∀ o1 o2 o3, TxB ((((w.alloc (.cells (txC t).toArray 32)).alloc o1).alloc o2).alloc o3) w.heap.size t) := hb3
  clear hb3
  generalize hM : txC t = M at *
  have HM : Hid (txC t = M) := hM
  clear hM
  go_enter Tryd.func20, Tryd.ntmps20
  go_wp2_with (refine wpList_load_mid rfl 32 _ rfl w.heap.size 0 rfl M _ (rB _ _ _) Tryd.underlying32 rfl sz ?_)
  refine calls_world (fun W => Below w.heap.size w W ∧ TxB W w.heap.size t ∧ Blank W (w.heap.size + 1 + 1) ∧ Blank W (w.heap.size + 1 + 1 + 1) ∧ W.rangeAt (w.heap.size + 1) 0 [.int .u64 (l0 b), .int .u64 (l1 b), .int .u64 (l2 b), .int .u64 (l3 b)]) ⟨by repeat (first | with_reducible exact Below.refl _ _ | with_reducible refine Below.alloc ?_ (by first | omega | (simp; done) | (simp; omega)) _), HB3.out _ _ _, (Blank.new (by simp)).alloc _, Blank.new (by simp), base_at _ _ _⟩ ?_
  clear rB HB3
  rintro W ⟨B, hX, hP, hQ, hA⟩
  have o1 : w.heap.size ≤ w.heap.size + 1 + 1 := by omega
  have o2 : w.heap.size ≤ w.heap.size + 1 + 1 + 1 := by omega
  have c1 : w.heap.size + 1 + 1 ≠ w.heap.size + 1 + 1 + 1 := by omega
  have c2 := c1.symm
  have c3 : w.heap.size + 1 + 1 + 1 ≠ w.heap.size := by omega
  have c5 : w.heap.size + 1 + 1 ≠ w.heap.size := by omega
  have c6 : w.heap.size + 1 < W.heap.size := W.block_lt_of_cell? _ (hA 0 _ rfl)
  generalize w.heap.size + 1 + 1 + 1 = bt at *
  generalize w.heap.size + 1 + 1 = bp at *
  generalize w.heap.size + 1 = ba at *
  with_reducible refine (DR.out _ B).mono ?_
  rintro e' w1 ⟨rfl, hb⟩
  replace B := B.trans (hb.mono B.size)
  replace hX := hX.keep hb; replace hP := hP.keep hb; replace hQ := hQ.keep hb
  have hA1 : w1.rangeAt ba 0 [.int .u64 (l0 b), .int .u64 (l1 b), .int .u64 (l2 b), .int .u64 (l3 b)] := fun j v hv => cell_keep hb (hA j v hv)
  clear hb hA c6 W DR
  have gA0 : w1.cell? ⟨ba, 0, none⟩ = some (.int .u64 (l0 b)) := hA1 0 _ rfl
  have gA1 : w1.cell? ⟨ba, 1, none⟩ = some (.int .u64 (l1 b)) := hA1 1 _ rfl
  have gA2 : w1.cell? ⟨ba, 2, none⟩ = some (.int .u64 (l2 b)) := hA1 2 _ rfl
  have gA3 : w1.cell? ⟨ba, 3, none⟩ = some (.int .u64 (l3 b)) := hA1 3 _ rfl
  clear hA1
  have gQ := hQ.1.all4; have fQ := hQ.2.all4
  have gP := hP.1.all4; have fP := hP.2.all4
  have ty := hX.ty
  have rM : w1.rangeAt w.heap.size 0 M := HM.out ▸ hX.all
  clear rM sz
  go_wp2
  simp (config := { maxDischargeDepth := 6, maxSteps := 4000000 }) [bodyPost, results, Tryd.results20, go_sem, *]
  repeat (first | with_reducible exact B | with_reducible refine Below.setCell ?_ o1 _ | with_reducible refine Below.setCell ?_ o2 _ | with_reducible refine Below.drew ?_)
set_option maxRecDepth 100000 in
set_option maxHeartbeats 8000000 in
theorem price_fixed {t : Txv} {b d p q er : Int} (h20 : t.to.length = 20) (w : World) (d0 : d = 0) (c : t.ty = 0 ∨ t.ty = 1) (FX : Hid (∀ W, Calls Tryd.prog 35 #[.agg (txC t).toArray, .agg #[.int .u64 (l0 b), .int .u64 (l1 b), .int .u64 (l2 b), .int .u64 (l3 b)]] W fun e' w' => e' = .returned (.tuple #[.agg #[.int .u64 (l0 p), .int .u64 (l1 p), .int .u64 (l2 p), .int .u64 (l3 p)], .agg #[.int .u64 (l0 q), .int .u64 (l1 q), .int .u64 (l2 q), .int .u64 (l3 q)], .int .i64 er]) ∧ Below W.heap.size W w'))
    (DR : Hid (∀ W, Below w.heap.size w W → Calls Tryd.prog 6 #[.agg (txC t).toArray] W fun e w' => e = .returned (.int .i64 d) ∧ Below W.heap.size W w')) :
    Calls Tryd.prog 20 #[.agg (txC t).toArray, .agg #[.int .u64 (l0 b), .int .u64 (l1 b), .int .u64 (l2 b), .int .u64 (l3 b)]] w fun e w' => e = .returned (.tuple #[.agg #[.int .u64 (l0 p), .int .u64 (l1 p), .int .u64 (l2 p), .int .u64 (l3 p)], .agg #[.int .u64 (l0 q), .int .u64 (l1 q), .int .u64 (l2 q), .int .u64 (l3 q)], .int .i64 er]) ∧ Below w.heap.size w w' := by
  have hz := build_zero
  have sz := size_tx h20
  have hb3 : ∀ o1 o2 o3, TxB ((((w.alloc (.cells (txC t).toArray 32)).alloc o1).alloc o2).alloc o3) w.heap.size t := fun o1 o2 o3 => (TxB.new h20).keep ((((Below.refl _ _).alloc (Nat.le_refl _) _).alloc (by simp) _).alloc (by first | (simp; done) | (simp; omega)) _)
  have rB := fun o1 o2 o3 => (hb3 o1 o2 o3).all
  have HB3 : Hid (∀ o1 o2 o3, TxB ((((w.alloc (.cells (txC t).toArray 32)).alloc o1).alloc o2).alloc o3) w.heap.size t) := hb3
  clear hb3
  generalize hM : txC t = M at *
  have HM : Hid (txC t = M) := hM
  clear hM
  go_enter Tryd.func20, Tryd.ntmps20
  go_wp2_with (refine wpList_load_mid rfl 32 _ rfl w.heap.size 0 rfl M _ (rB _ _ _) Tryd.underlying32 rfl sz ?_)
  refine calls_world (fun W => Below w.heap.size w W ∧ TxB W w.heap.size t ∧ Blank W (w.heap.size + 1 + 1) ∧ Blank W (w.heap.size + 1 + 1 + 1) ∧ W.rangeAt (w.heap.size + 1) 0 [.int .u64 (l0 b), .int .u64 (l1 b), .int .u64 (l2 b), .int .u64 (l3 b)]) ⟨by repeat (first | with_reducible exact Below.refl _ _ | with_reducible refine Below.alloc ?_ (by first | omega | (simp; done) | (simp; omega)) _), HB3.out _ _ _, (Blank.new (by simp)).alloc _, Blank.new (by simp), base_at _ _ _⟩ ?_
  clear rB HB3
  rintro W ⟨B, hX, hP, hQ, hA⟩
  have o1 : w.heap.size ≤ w.heap.size + 1 + 1 := by omega
  have o2 : w.heap.size ≤ w.heap.size + 1 + 1 + 1 := by omega
  have c1 : w.heap.size + 1 + 1 ≠ w.heap.size + 1 + 1 + 1 := by omega
  have c2 := c1.symm
  have c3 : w.heap.size + 1 + 1 + 1 ≠ w.heap.size := by omega
  have c5 : w.heap.size + 1 + 1 ≠ w.heap.size := by omega
  have c6 : w.heap.size + 1 < W.heap.size := W.block_lt_of_cell? _ (hA 0 _ rfl)
  generalize w.heap.size + 1 + 1 + 1 = bt at *
  generalize w.heap.size + 1 + 1 = bp at *
  generalize w.heap.size + 1 = ba at *
  with_reducible refine (DR.out _ B).mono ?_
  rintro e' w1 ⟨rfl, hb⟩
  replace B := B.trans (hb.mono B.size)
  replace hX := hX.keep hb; replace hP := hP.keep hb; replace hQ := hQ.keep hb
  have hA1 : w1.rangeAt ba 0 [.int .u64 (l0 b), .int .u64 (l1 b), .int .u64 (l2 b), .int .u64 (l3 b)] := fun j v hv => cell_keep hb (hA j v hv)
  clear hb hA c6 W DR
  have gA0 : w1.cell? ⟨ba, 0, none⟩ = some (.int .u64 (l0 b)) := hA1 0 _ rfl
  have gA1 : w1.cell? ⟨ba, 1, none⟩ = some (.int .u64 (l1 b)) := hA1 1 _ rfl
  have gA2 : w1.cell? ⟨ba, 2, none⟩ = some (.int .u64 (l2 b)) := hA1 2 _ rfl
  have gA3 : w1.cell? ⟨ba, 3, none⟩ = some (.int .u64 (l3 b)) := hA1 3 _ rfl
  clear hA1
  have gQ := hQ.1.all4; have fQ := hQ.2.all4
  have gP := hP.1.all4; have fP := hP.2.all4
  have ty := hX.ty
  have rM : w1.rangeAt w.heap.size 0 M := HM.out ▸ hX.all
  subst d0
  generalize t.ty = x at *
  rcases c with rfl | rfl
  all_goals (go_wp2_with (refine wpList_load_midG (by kernel_rfl) 32 _ rfl w.heap.size 0 rfl M _ rM Tryd.underlying32 rfl sz ?_))
  all_goals
    with_reducible refine (FX.out _).mono ?_
    rintro e' w2 ⟨rfl, hb⟩
    replace B := B.trans (hb.mono B.size)
    replace hP := hP.keep hb; replace hQ := hQ.keep hb
    clear gA0 gA1 gA2 gA3 gQ fQ gP fP ty rM sz hX
    clear hb w1 FX
    have gQ := hQ.1.all4; have fQ := hQ.2.all4
    have gP := hP.1.all4; have fP := hP.2.all4
    go_wp2
    simp (config := { maxDischargeDepth := 6, maxSteps := 4000000 }) [bodyPost, results, Tryd.results20, go_sem, *]
    repeat (first | with_reducible exact B | with_reducible refine Below.setCell ?_ o1 _ | with_reducible refine Below.setCell ?_ o2 _ | with_reducible refine Below.drew ?_)
set_option maxRecDepth 100000 in
set_option maxHeartbeats 8000000 in
theorem price_capped {t : Txv} {b d p q er : Int} (h20 : t.to.length = 20) (w : World) (d0 : d = 0) (c : ¬ (t.ty = 0 ∨ t.ty = 1)) (FX : Hid (∀ W, Calls Tryd.prog 36 #[.agg (txC t).toArray, .agg #[.int .u64 (l0 b), .int .u64 (l1 b), .int .u64 (l2 b), .int .u64 (l3 b)]] W fun e' w' => e' = .returned (.tuple #[.agg #[.int .u64 (l0 p), .int .u64 (l1 p), .int .u64 (l2 p), .int .u64 (l3 p)], .agg #[.int .u64 (l0 q), .int .u64 (l1 q), .int .u64 (l2 q), .int .u64 (l3 q)], .int .i64 er]) ∧ Below W.heap.size W w'))
    (DR : Hid (∀ W, Below w.heap.size w W → Calls Tryd.prog 6 #[.agg (txC t).toArray] W fun e w' => e = .returned (.int .i64 d) ∧ Below W.heap.size W w')) :
    Calls Tryd.prog 20 #[.agg (txC t).toArray, .agg #[.int .u64 (l0 b), .int .u64 (l1 b), .int .u64 (l2 b), .int .u64 (l3 b)]] w fun e w' => e = .returned (.tuple #[.agg #[.int .u64 (l0 p), .int .u64 (l1 p), .int .u64 (l2 p), .int .u64 (l3 p)], .agg #[.int .u64 (l0 q), .int .u64 (l1 q), .int .u64 (l2 q), .int .u64 (l3 q)], .int .i64 er]) ∧ Below w.heap.size w w' := by
  have hz := build_zero
  have sz := size_tx h20
  have hb3 : ∀ o1 o2 o3, TxB ((((w.alloc (.cells (txC t).toArray 32)).alloc o1).alloc o2).alloc o3) w.heap.size t := fun o1 o2 o3 => (TxB.new h20).keep ((((Below.refl _ _).alloc (Nat.le_refl _) _).alloc (by simp) _).alloc (by first | (simp; done) | (simp; omega)) _)
  have rB := fun o1 o2 o3 => (hb3 o1 o2 o3).all
  have HB3 : Hid (∀ o1 o2 o3, TxB ((((w.alloc (.cells (txC t).toArray 32)).alloc o1).alloc o2).alloc o3) w.heap.size t) := hb3
  clear hb3
  generalize hM : txC t = M at *
  have HM : Hid (txC t = M) := hM
  clear hM
  go_enter Tryd.func20, Tryd.ntmps20
  go_wp2_with (refine wpList_load_mid rfl 32 _ rfl w.heap.size 0 rfl M _ (rB _ _ _) Tryd.underlying32 rfl sz ?_)
  refine calls_world (fun W => Below w.heap.size w W ∧ TxB W w.heap.size t ∧ Blank W (w.heap.size + 1 + 1) ∧ Blank W (w.heap.size + 1 + 1 + 1) ∧ W.rangeAt (w.heap.size + 1) 0 [.int .u64 (l0 b), .int .u64 (l1 b), .int .u64 (l2 b), .int .u64 (l3 b)]) ⟨by repeat (first | with_reducible exact Below.refl _ _ | with_reducible refine Below.alloc ?_ (by first | omega | (simp; done) | (simp; omega)) _), HB3.out _ _ _, (Blank.new (by simp)).alloc _, Blank.new (by simp), base_at _ _ _⟩ ?_
  clear rB HB3
  rintro W ⟨B, hX, hP, hQ, hA⟩
  have o1 : w.heap.size ≤ w.heap.size + 1 + 1 := by omega
  have o2 : w.heap.size ≤ w.heap.size + 1 + 1 + 1 := by omega
  have c1 : w.heap.size + 1 + 1 ≠ w.heap.size + 1 + 1 + 1 := by omega
  have c2 := c1.symm
  have c3 : w.heap.size + 1 + 1 + 1 ≠ w.heap.size := by omega
  have c5 : w.heap.size + 1 + 1 ≠ w.heap.size := by omega
  have c6 : w.heap.size + 1 < W.heap.size := W.block_lt_of_cell? _ (hA 0 _ rfl)
  generalize w.heap.size + 1 + 1 + 1 = bt at *
  generalize w.heap.size + 1 + 1 = bp at *
  generalize w.heap.size + 1 = ba at *
  with_reducible refine (DR.out _ B).mono ?_
  rintro e' w1 ⟨rfl, hb⟩
  replace B := B.trans (hb.mono B.size)
  replace hX := hX.keep hb; replace hP := hP.keep hb; replace hQ := hQ.keep hb
  have hA1 : w1.rangeAt ba 0 [.int .u64 (l0 b), .int .u64 (l1 b), .int .u64 (l2 b), .int .u64 (l3 b)] := fun j v hv => cell_keep hb (hA j v hv)
  clear hb hA c6 W DR
  have gA0 : w1.cell? ⟨ba, 0, none⟩ = some (.int .u64 (l0 b)) := hA1 0 _ rfl
  have gA1 : w1.cell? ⟨ba, 1, none⟩ = some (.int .u64 (l1 b)) := hA1 1 _ rfl
  have gA2 : w1.cell? ⟨ba, 2, none⟩ = some (.int .u64 (l2 b)) := hA1 2 _ rfl
  have gA3 : w1.cell? ⟨ba, 3, none⟩ = some (.int .u64 (l3 b)) := hA1 3 _ rfl
  clear hA1
  have gQ := hQ.1.all4; have fQ := hQ.2.all4
  have gP := hP.1.all4; have fP := hP.2.all4
  have ty := hX.ty
  have rM : w1.rangeAt w.heap.size 0 M := HM.out ▸ hX.all
  subst d0
  generalize t.ty = x at *
  have n0 : ¬ x = 0 := fun h => c (.inl h)
  have n1 : ¬ x = 1 := fun h => c (.inr h)
  clear c
  go_wp2_with (refine wpList_load_midG (by kernel_rfl) 32 _ rfl w.heap.size 0 rfl M _ rM Tryd.underlying32 rfl sz ?_)
  all_goals
    with_reducible refine (FX.out _).mono ?_
    rintro e' w2 ⟨rfl, hb⟩
    replace B := B.trans (hb.mono B.size)
    replace hP := hP.keep hb; replace hQ := hQ.keep hb
    clear gA0 gA1 gA2 gA3 gQ fQ gP fP ty rM sz hX
    clear hb w1 FX
    have gQ := hQ.1.all4; have fQ := hQ.2.all4
    have gP := hP.1.all4; have fP := hP.2.all4
    go_wp2
    simp (config := { maxDischargeDepth := 6, maxSteps := 4000000 }) [bodyPost, results, Tryd.results20, go_sem, *]
    repeat (first | with_reducible exact B | with_reducible refine Below.setCell ?_ o1 _ | with_reducible refine Below.setCell ?_ o2 _ | with_reducible refine Below.drew ?_)
end Go.Proofs.YtllfmlgnemkklaaDoor

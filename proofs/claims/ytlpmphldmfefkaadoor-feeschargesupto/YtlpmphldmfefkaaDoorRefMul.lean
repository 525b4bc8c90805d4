import Derived.Test.YtlpmphldmfefkaaDoorRef1
import Derived.Test.YtlpmphldmfefkaaDoorHold
import Derived.Test.YtlpmphldmfefkaaDoorShl
import Derived.Test.YtlpmphldmfefkaaDoorShelf
import Derived.Lib.ItoaNum
import Derived.Deep.LoopGhost
import Derived.Deep.RegionHeld3
namespace Go.Proofs.YtlpmphldmfefkaaDoor
open Go.RowKit

set_option maxHeartbeats 4000000 in
theorem rmul_any {n m : Int} (hn : Num n) (hm : Num m) (w : World) :
    Calls Tryd.prog 78 #[.agg #[.int .u64 (l0 n), .int .u64 (l1 n), .int .u64 (l2 n), .int .u64 (l3 n)], .agg #[.int .u64 (l0 m), .int .u64 (l1 m), .int .u64 (l2 m), .int .u64 (l3 m)]] w fun e w' => e = .returned (.tuple #[.agg #[.int .u64 (l0 (hiN n m)), .int .u64 (l1 (hiN n m)), .int .u64 (l2 (hiN n m)), .int .u64 (l3 (hiN n m))], .agg #[.int .u64 (l0 (loN n m)), .int .u64 (l1 (loN n m)), .int .u64 (l2 (loN n m)), .int .u64 (l3 (loN n m))]]) ∧ Below w.heap.size w w' := by
  obtain ⟨a0, a1, a2, a3, a4, a5, a6, a7, gA, eA, DA'⟩ := digits_names hn
  obtain ⟨b0, b1, b2, b3, b4, b5, b6, b7, gB, eB, DB'⟩ := digits_names hm
  have DA : Hid _ := DA'
  have DB : Hid _ := DB'
  clear DA' DB'
  go_enter Tryd.func78, Tryd.ntmps78
  go_wp2_with fail
  refine calls_world (fun W => Below w.heap.size w W ∧ Hold W (w.heap.size + 1) m ∧ Blank W (w.heap.size + 1 + 1) ∧ Blank W (w.heap.size + 1 + 1 + 1)) ⟨?_, ?_, ?_, ?_⟩ ?_
  · repeat (first | with_reducible exact Below.refl _ _ | with_reducible refine Below.alloc ?_ (by first | omega | (simp; done) | (simp; omega)) _)
  · exact ((Hold.fresh (by simp)).alloc _).alloc _
  · exact (Blank.new (by simp)).alloc _
  · exact Blank.new (by simp)
  rintro W ⟨B, hY, hR, hS⟩
  have o1 : w.heap.size ≤ w.heap.size + 1 + 1 := by omega
  have o0 : w.heap.size ≤ w.heap.size + 1 + 1 + 1 := by omega
  have c0 : w.heap.size + 1 + 1 ≠ w.heap.size + 1 + 1 + 1 := by omega
  generalize w.heap.size + 1 + 1 + 1 = bs at *
  generalize w.heap.size + 1 + 1 = br at *
  generalize w.heap.size + 1 = bw at *
  refine (DA.out _).mono ?_
  rintro e w1 ⟨rfl, hb⟩
  replace B := B.trans (hb.mono B.size)
  replace hY := hY.keep hb; replace hR := hR.keep hb; replace hS := hS.keep hb
  clear hb W
  have gY := hY.allocs
  go_wp2_with fail
  refine calls_world (fun W => Below w.heap.size w W ∧ Blank W br ∧ Blank W bs ∧ Dgs W w1.heap.size [a0, a1, a2, a3, a4, a5, a6, a7]) ⟨B.alloc B.size _, hR.alloc _, hS.alloc _, Dgs.new w1 [a0, a1, a2, a3, a4, a5, a6, a7] 78⟩ ?_
  clear B hY hR hS gY
  rintro W ⟨B, hR, hS, hA⟩
  generalize w1.heap.size = ba at *
  refine (DB.out _).mono ?_
  rintro e w2 ⟨rfl, hb⟩
  replace B := B.trans (hb.mono B.size)
  replace hR := hR.keep hb; replace hS := hS.keep hb; replace hA := hA.keep (by simp) hb
  clear hb W
  have c1 : br ≠ w2.heap.size + 1 := by have := hR.1.lt (by simp); omega
  have c2 : bs ≠ w2.heap.size + 1 := by have := hS.1.lt (by simp); omega
  have c3 : ba ≠ w2.heap.size + 1 := by have := hA.1.lt (by simp); omega
  have c4 : w2.heap.size ≠ w2.heap.size + 1 := by omega
  have o2 : w.heap.size ≤ w2.heap.size + 1 := by have := B.size; omega
  go_wp2_with fail
  refine wp_world (fun W => Below w.heap.size w W ∧ Blank W br ∧ Blank W bs ∧ Dgs W ba [a0, a1, a2, a3, a4, a5, a6, a7] ∧ Dgs W w2.heap.size [b0, b1, b2, b3, b4, b5, b6, b7] ∧ Dgs W (w2.heap.size + 1) [0, 0, 0, 0, 0, 0, 0, 0, 0, 0, 0, 0, 0, 0, 0, 0]) ⟨(B.alloc B.size _).alloc (by have := B.size; simp; omega) _, (hR.alloc _).alloc _, (hS.alloc _).alloc _, (hA.alloc (by simp) _).alloc (by simp) _, (Dgs.new w2 [b0, b1, b2, b3, b4, b5, b6, b7] 78).alloc (by simp) _, ?_⟩ ?_
  · have := Dgs.new (w2.alloc (.cells #[.int .u64 b0, .int .u64 b1, .int .u64 b2, .int .u64 b3, .int .u64 b4, .int .u64 b5, .int .u64 b6, .int .u64 b7] 78)) [0, 0, 0, 0, 0, 0, 0, 0, 0, 0, 0, 0, 0, 0, 0, 0] 113
    simp at this
    exact this
  clear B hR hS hA
  rintro W ⟨B, hR, hS, hA, hB, hP⟩
  generalize w2.heap.size + 1 = bp at *
  generalize w2.heap.size = bb at *
  have GA : Hid (Digs [a0, a1, a2, a3, a4, a5, a6, a7] ∧ vd [a0, a1, a2, a3, a4, a5, a6, a7] = n) := ⟨gA, eA⟩
  have GB : Hid (Digs [b0, b1, b2, b3, b4, b5, b6, b7] ∧ vd [b0, b1, b2, b3, b4, b5, b6, b7] = m) := ⟨gB, eB⟩
  generalize hAs : [a0, a1, a2, a3, a4, a5, a6, a7] = As at *
  generalize hBs : [b0, b1, b2, b3, b4, b5, b6, b7] = Bs at *
  have lA : As.length = 8 := by rw [← hAs]; rfl
  have lB : Bs.length = 8 := by rw [← hBs]; rfl
  clear hAs hBs gA eA gB eB DA DB hn hm
  go_loopg [9] 8 (fun k iv wr => ∃ (i : Nat) (P : List Int), k = 8 - i ∧ i ≤ 8 ∧ iv = .int .i64 i ∧ P.length = 16 ∧ Digs P ∧ (∀ t, i + 8 ≤ t → P.getD t 0 = 0) ∧ vd P = vd (As.take i) * m ∧ Below w.heap.size w wr ∧ Blank wr br ∧ Blank wr bs ∧ Dgs wr ba As ∧ Dgs wr bb Bs ∧ Dgs wr bp P)
  case atStart =>
    refine ⟨0, _, rfl, by decide, rfl, rfl, ?_, ?_, by simp [vd], B, hR, hS, hA, hB, hP⟩
    · intro x hx
      simp at hx
      subst hx
      exact ⟨by decide, by decide⟩
    · intro t ht
      exact zeros_getD 16 t
  case round =>
    clear B hR hS hA hB hP
    obtain ⟨i, P, hk, hi, rfl, hL, gL, tl, inv, B, hR, hS, hA, hB, hP⟩ := hrel
    have IV : Hid (vd P = vd (As.take i) * m) := inv
    have GP : Hid (Digs P ∧ ∀ t, i + 8 ≤ t → P.getD t 0 = 0) := ⟨gL, tl⟩
    have HK : Hid (gk = 8 - i) := hk
    clear inv gL hk tl
    by_cases h8 : i = 8
    · subst h8
      go_wp2_with fail
      have d1 : br ≠ wr.heap.size := by have := hR.1.lt (by simp); omega
      have d2 : bs ≠ wr.heap.size := by have := hS.1.lt (by simp); omega
      have d3 : bp ≠ wr.heap.size := by have := hP.1.lt (by omega); omega
      have d4 : br ≠ wr.heap.size + 1 := by have := hR.1.lt (by simp); omega
      have d5 : bs ≠ wr.heap.size + 1 := by have := hS.1.lt (by simp); omega
      have d6 : bp ≠ wr.heap.size + 1 := by have := hP.1.lt (by omega); omega
      have d7 : wr.heap.size ≠ wr.heap.size + 1 := by omega
      have o3 : w.heap.size ≤ wr.heap.size := B.size
      have o4 : w.heap.size ≤ wr.heap.size + 1 := by omega
      refine wp_world (fun W => Below w.heap.size w W ∧ Blank W br ∧ Blank W bs ∧ Dgs W bp P ∧ Dgs W wr.heap.size [0, 0, 0, 0, 0, 0, 0, 0] ∧ Dgs W (wr.heap.size + 1) [0, 0, 0, 0, 0, 0, 0, 0]) ⟨(B.alloc B.size _).alloc (by have := B.size; simp; omega) _, (hR.alloc _).alloc _, (hS.alloc _).alloc _, (hP.alloc (by omega) _).alloc (by omega) _, (Dgs.new wr [0, 0, 0, 0, 0, 0, 0, 0] 78).alloc (by simp) _, ?_⟩ ?_
      · have := Dgs.new (wr.alloc (.cells #[.int .u64 0, .int .u64 0, .int .u64 0, .int .u64 0, .int .u64 0, .int .u64 0, .int .u64 0, .int .u64 0] 78)) [0, 0, 0, 0, 0, 0, 0, 0] 78
        simp at this
        exact this
      clear B hR hS hA hB hP
      rintro W ⟨B, hR, hS, hP, hl, hh⟩
      generalize wr.heap.size + 1 = bh at *
      generalize wr.heap.size = bl at *
      go_loopg [15] 8 (fun k iv wr => ∃ (i : Nat) (Lo Hi : List Int), k = 8 - i ∧ i ≤ 8 ∧ iv = .int .i64 i ∧ Lo.length = 8 ∧ Hi.length = 8 ∧ (∀ t, t < i → Lo.getD t 0 = P.getD t 0) ∧ (∀ t, t < i → Hi.getD t 0 = P.getD (t + 8) 0) ∧ Below w.heap.size w wr ∧ Blank wr br ∧ Blank wr bs ∧ Dgs wr bp P ∧ Dgs wr bl Lo ∧ Dgs wr bh Hi)
      case atStart => exact ⟨0, _, _, rfl, by decide, rfl, rfl, rfl, fun t h => absurd h (Nat.not_lt_zero t), fun t h => absurd h (Nat.not_lt_zero t), B, hR, hS, hP, hl, hh⟩
      case round =>
        clear B hR hS hP hl hh
        obtain ⟨i, Lo, Hi, hk, hi, rfl, lL, lH, eL, eH, B, hR, hS, hP, hl, hh⟩ := hrel
        have HK2 : Hid (gk = 8 - i) := hk
        have EE : Hid ((∀ t, t < i → Lo.getD t 0 = P.getD t 0) ∧ (∀ t, t < i → Hi.getD t 0 = P.getD (t + 8) 0)) := ⟨eL, eH⟩
        clear hk eL eH
        by_cases h8 : i = 8
        · subst h8
          have eLo : Lo = P.take 8 := ext_getD (by simp; omega) fun t ht => by rw [EE.out.1 t (by omega), getD_take (by omega)]
          have eHi : Hi = P.drop 8 := ext_getD (by simp; omega) fun t ht => by rw [EE.out.2 t (by omega), getD_drop]
          have gLo : Digs Lo := by rw [eLo]; exact GP.out.1.take 8
          have gHi : Digs Hi := by rw [eHi]; exact GP.out.1.drop 8
          have sp := vd_split P 8 (by omega)
          have tk : As.take 8 = As := by rw [← lA]; exact List.take_length
          rw [← eLo, ← eHi, IV.out, tk, GA.out.2] at sp
          have bl8 := vd_bound gLo
          rw [lL] at bl8
          obtain ⟨ev, eu⟩ := mul_of bl8.1 bl8.2 sp.symm
          obtain ⟨x0, x1, x2, x3, x4, x5, x6, x7, rfl⟩ := len8 lL
          obtain ⟨y0, y1, y2, y3, y4, y5, y6, y7, rfl⟩ := len8 lH
          have NL : Hid (∀ w, Calls Tryd.prog 80 #[.agg #[.int .u64 x0, .int .u64 x1, .int .u64 x2, .int .u64 x3, .int .u64 x4, .int .u64 x5, .int .u64 x6, .int .u64 x7]] w fun e w' => e = .returned (.agg #[.int .u64 (l0 (loN n m)), .int .u64 (l1 (loN n m)), .int .u64 (l2 (loN n m)), .int .u64 (l3 (loN n m))]) ∧ Below w.heap.size w w') := fun w => number_any (l := [x0, x1, x2, x3, x4, x5, x6, x7]) rfl gLo ev w
          have NH : Hid (∀ w, Calls Tryd.prog 80 #[.agg #[.int .u64 y0, .int .u64 y1, .int .u64 y2, .int .u64 y3, .int .u64 y4, .int .u64 y5, .int .u64 y6, .int .u64 y7]] w fun e w' => e = .returned (.agg #[.int .u64 (l0 (hiN n m)), .int .u64 (l1 (hiN n m)), .int .u64 (l2 (hiN n m)), .int .u64 (l3 (hiN n m))]) ∧ Below w.heap.size w w') := fun w => number_any (l := [y0, y1, y2, y3, y4, y5, y6, y7]) rfl gHi eu w
          clear eLo eHi gLo gHi sp tk bl8 ev eu EE GP IV GA GB hP
          have gl := hl.1.all8; have gh := hh.1.all8
          go_wp2_with fail
          clear gl gh
          skip
          refine wp_world (fun W => Below w.heap.size w W ∧ Blank W br ∧ Blank W bs ∧ Dgs W bl [x0, x1, x2, x3, x4, x5, x6, x7] ∧ Dgs W bh [y0, y1, y2, y3, y4, y5, y6, y7]) ⟨B, hR, hS, hl, hh⟩ ?_
          clear B hR hS hl hh
          rintro W ⟨B, hR, hS, hl, hh⟩
          have gl := hl.1.all8; have gh := hh.1.all8; have gR := hR.1.all4; have fR := hR.2.all4; have gS := hS.1.all4; have fS := hS.2.all4
          have ll := hl.1.lt (by simp); have lh := hh.1.lt (by simp); have lr := hR.1.lt (by simp); have ls := hS.1.lt (by simp)
          have d1s := d1.symm; have d2s := d2.symm; have d4s := d4.symm; have d5s := d5.symm; have c0s := c0.symm
          have BB : Hid (Below w.heap.size w W) := B
          have geB := B.size
          clear B hR hS hl hh
          have _ : bl < W.heap.size := by omega
          have _ : bl ≤ W.heap.size := by omega
          have _ : bl < W.heap.size + 1 := by omega
          have _ : bl < W.heap.size + 1 + 1 := by omega
          have _ : bl ≠ W.heap.size := by omega
          have _ : W.heap.size ≠ bl := by omega
          have _ : bl ≠ W.heap.size + 1 := by omega
          have _ : W.heap.size + 1 ≠ bl := by omega
          have _ : bh < W.heap.size := by omega
          have _ : bh ≤ W.heap.size := by omega
          have _ : bh < W.heap.size + 1 := by omega
          have _ : bh < W.heap.size + 1 + 1 := by omega
          have _ : bh ≠ W.heap.size := by omega
          have _ : W.heap.size ≠ bh := by omega
          have _ : bh ≠ W.heap.size + 1 := by omega
          have _ : W.heap.size + 1 ≠ bh := by omega
          have _ : br < W.heap.size := by omega
          have _ : br ≤ W.heap.size := by omega
          have _ : br < W.heap.size + 1 := by omega
          have _ : br < W.heap.size + 1 + 1 := by omega
          have _ : br ≠ W.heap.size := by omega
          have _ : W.heap.size ≠ br := by omega
          have _ : br ≠ W.heap.size + 1 := by omega
          have _ : W.heap.size + 1 ≠ br := by omega
          have _ : bs < W.heap.size := by omega
          have _ : bs ≤ W.heap.size := by omega
          have _ : bs < W.heap.size + 1 := by omega
          have _ : bs < W.heap.size + 1 + 1 := by omega
          have _ : bs ≠ W.heap.size := by omega
          have _ : W.heap.size ≠ bs := by omega
          have _ : bs ≠ W.heap.size + 1 := by omega
          have _ : W.heap.size + 1 ≠ bs := by omega
          have dz : W.drew.heap.size = W.heap.size := rfl
          go_region_held3 (fun w' => w'.cell? ⟨bl, 0, none⟩ = some (.int .u64 x0) ∧ w'.cell? ⟨bl, 1, none⟩ = some (.int .u64 x1) ∧ w'.cell? ⟨bl, 2, none⟩ = some (.int .u64 x2) ∧ w'.cell? ⟨bl, 3, none⟩ = some (.int .u64 x3) ∧ w'.cell? ⟨bl, 4, none⟩ = some (.int .u64 x4) ∧ w'.cell? ⟨bl, 5, none⟩ = some (.int .u64 x5) ∧ w'.cell? ⟨bl, 6, none⟩ = some (.int .u64 x6) ∧ w'.cell? ⟨bl, 7, none⟩ = some (.int .u64 x7) ∧ w'.cell? ⟨bh, 0, none⟩ = some (.int .u64 y0) ∧ w'.cell? ⟨bh, 1, none⟩ = some (.int .u64 y1) ∧ w'.cell? ⟨bh, 2, none⟩ = some (.int .u64 y2) ∧ w'.cell? ⟨bh, 3, none⟩ = some (.int .u64 y3) ∧ w'.cell? ⟨bh, 4, none⟩ = some (.int .u64 y4) ∧ w'.cell? ⟨bh, 5, none⟩ = some (.int .u64 y5) ∧ w'.cell? ⟨bh, 6, none⟩ = some (.int .u64 y6) ∧ w'.cell? ⟨bh, 7, none⟩ = some (.int .u64 y7)) (((try dsimp only); (repeat' (apply And.intro)); (all_goals repeat (first | with_reducible assumption | with_reducible apply cell_keep hb2 | with_reducible apply cell_keep hb1 | with_reducible apply cell_alloc | (with_reducible refine cell_set ?_ (by with_reducible assumption)) | (simp [go_sem, *]; done)))))
            (first
              | (go_at_call 80; with_reducible refine (NH.out _).mono ?_; rintro e w1 ⟨rfl, hb1⟩; have hc1 := oldCells hb1; have hz1 := hb1.size; (try simp at hz1); (try (have := fun j => oldCells hb1 (W.heap.size) j (by first | omega | (simp; done) | (simp; omega)))); (try (have := fun j => oldCells hb1 (W.heap.size + 1) j (by first | omega | (simp; done) | (simp; omega)))); have _ : bl < w1.heap.size := (by omega); have _ : bl ≤ w1.heap.size := (by omega); have _ : bl < w1.heap.size + 1 := (by omega); have _ : bl < w1.heap.size + 1 + 1 := (by omega); have _ : bl ≠ w1.heap.size := (by omega); have _ : w1.heap.size ≠ bl := (by omega); have _ : bl ≠ w1.heap.size + 1 := (by omega); have _ : w1.heap.size + 1 ≠ bl := (by omega); have _ : bh < w1.heap.size := (by omega); have _ : bh ≤ w1.heap.size := (by omega); have _ : bh < w1.heap.size + 1 := (by omega); have _ : bh < w1.heap.size + 1 + 1 := (by omega); have _ : bh ≠ w1.heap.size := (by omega); have _ : w1.heap.size ≠ bh := (by omega); have _ : bh ≠ w1.heap.size + 1 := (by omega); have _ : w1.heap.size + 1 ≠ bh := (by omega); have _ : br < w1.heap.size := (by omega); have _ : br ≤ w1.heap.size := (by omega); have _ : br < w1.heap.size + 1 := (by omega); have _ : br < w1.heap.size + 1 + 1 := (by omega); have _ : br ≠ w1.heap.size := (by omega); have _ : w1.heap.size ≠ br := (by omega); have _ : br ≠ w1.heap.size + 1 := (by omega); have _ : w1.heap.size + 1 ≠ br := (by omega); have _ : bs < w1.heap.size := (by omega); have _ : bs ≤ w1.heap.size := (by omega); have _ : bs < w1.heap.size + 1 := (by omega); have _ : bs < w1.heap.size + 1 + 1 := (by omega); have _ : bs ≠ w1.heap.size := (by omega); have _ : w1.heap.size ≠ bs := (by omega); have _ : bs ≠ w1.heap.size + 1 := (by omega); have _ : w1.heap.size + 1 ≠ bs := (by omega); (try (have _ : W.heap.size < w1.heap.size := (by omega))); (try (have _ : W.heap.size ≤ w1.heap.size := (by omega))); (try (have _ : W.heap.size ≠ w1.heap.size := (by omega))); (try (have _ : w1.heap.size ≠ W.heap.size := (by omega))); (try (have _ : W.heap.size < w1.heap.size + 1 := (by omega))); (try (have _ : W.heap.size + 1 < w1.heap.size := (by omega))); (try (have _ : W.heap.size + 1 ≤ w1.heap.size := (by omega))); (try (have _ : W.heap.size + 1 ≠ w1.heap.size := (by omega))); (try (have _ : w1.heap.size ≠ W.heap.size + 1 := (by omega))); (try (have _ : W.heap.size + 1 < w1.heap.size + 1 := (by omega))))
              | (go_at_call 80; with_reducible refine (NL.out _).mono ?_; rintro e w2 ⟨rfl, hb2⟩; have hc2 := oldCells hb2; have hz2 := hb2.size; (try simp at hz2); (try (have := fun j => oldCells hb2 (W.heap.size) j (by first | omega | (simp; done) | (simp; omega)))); (try (have := fun j => oldCells hb2 (W.heap.size + 1) j (by first | omega | (simp; done) | (simp; omega)))); (try (have := fun j => oldCells hb2 (w1.heap.size) j (by first | omega | (simp; done) | (simp; omega)))); (try (have := fun j => oldCells hb2 (w1.heap.size + 1) j (by first | omega | (simp; done) | (simp; omega)))); have _ : bl < w2.heap.size := (by omega); have _ : bl ≤ w2.heap.size := (by omega); have _ : bl < w2.heap.size + 1 := (by omega); have _ : bl < w2.heap.size + 1 + 1 := (by omega); have _ : bl ≠ w2.heap.size := (by omega); have _ : w2.heap.size ≠ bl := (by omega); have _ : bl ≠ w2.heap.size + 1 := (by omega); have _ : w2.heap.size + 1 ≠ bl := (by omega); have _ : bh < w2.heap.size := (by omega); have _ : bh ≤ w2.heap.size := (by omega); have _ : bh < w2.heap.size + 1 := (by omega); have _ : bh < w2.heap.size + 1 + 1 := (by omega); have _ : bh ≠ w2.heap.size := (by omega); have _ : w2.heap.size ≠ bh := (by omega); have _ : bh ≠ w2.heap.size + 1 := (by omega); have _ : w2.heap.size + 1 ≠ bh := (by omega); have _ : br < w2.heap.size := (by omega); have _ : br ≤ w2.heap.size := (by omega); have _ : br < w2.heap.size + 1 := (by omega); have _ : br < w2.heap.size + 1 + 1 := (by omega); have _ : br ≠ w2.heap.size := (by omega); have _ : w2.heap.size ≠ br := (by omega); have _ : br ≠ w2.heap.size + 1 := (by omega); have _ : w2.heap.size + 1 ≠ br := (by omega); have _ : bs < w2.heap.size := (by omega); have _ : bs ≤ w2.heap.size := (by omega); have _ : bs < w2.heap.size + 1 := (by omega); have _ : bs < w2.heap.size + 1 + 1 := (by omega); have _ : bs ≠ w2.heap.size := (by omega); have _ : w2.heap.size ≠ bs := (by omega); have _ : bs ≠ w2.heap.size + 1 := (by omega); have _ : w2.heap.size + 1 ≠ bs := (by omega); (try (have _ : W.heap.size < w2.heap.size := (by omega))); (try (have _ : W.heap.size ≤ w2.heap.size := (by omega))); (try (have _ : W.heap.size ≠ w2.heap.size := (by omega))); (try (have _ : w2.heap.size ≠ W.heap.size := (by omega))); (try (have _ : W.heap.size < w2.heap.size + 1 := (by omega))); (try (have _ : W.heap.size + 1 < w2.heap.size := (by omega))); (try (have _ : W.heap.size + 1 ≤ w2.heap.size := (by omega))); (try (have _ : W.heap.size + 1 ≠ w2.heap.size := (by omega))); (try (have _ : w2.heap.size ≠ W.heap.size + 1 := (by omega))); (try (have _ : W.heap.size + 1 < w2.heap.size + 1 := (by omega))); (try (have _ : w1.heap.size < w2.heap.size := (by omega))); (try (have _ : w1.heap.size ≤ w2.heap.size := (by omega))); (try (have _ : w1.heap.size ≠ w2.heap.size := (by omega))); (try (have _ : w2.heap.size ≠ w1.heap.size := (by omega))); (try (have _ : w1.heap.size < w2.heap.size + 1 := (by omega))); (try (have _ : w1.heap.size + 1 < w2.heap.size := (by omega))); (try (have _ : w1.heap.size + 1 ≤ w2.heap.size := (by omega))); (try (have _ : w1.heap.size + 1 ≠ w2.heap.size := (by omega))); (try (have _ : w2.heap.size ≠ w1.heap.size + 1 := (by omega))); (try (have _ : w1.heap.size + 1 < w2.heap.size + 1 := (by omega)))))
          all_goals go_wp2
          all_goals simp [bodyPost, results, Tryd.results78, go_sem, *]
          all_goals repeat (first | with_reducible exact BB.out | with_reducible refine Below.drew ?_ | with_reducible refine Below.setCell ?_ (by with_reducible assumption) _ | with_reducible refine Below.trans ?_ (Below.mono hb2 (by omega)) | with_reducible refine Below.trans ?_ (Below.mono hb1 (by omega)))
        · have hi' : (i : Int) < 8 := by omega
          have eo : ((i : Int) + 8).toNat = i + 8 := by omega
          have gp := hP.1 i (by omega)
          have gq := hP.1 (i + 8) (by omega)
          have gl := hl.1 i (by omega)
          have gh := hh.1 i (by omega)
          have fl := hl.2 i (by omega)
          have fh := hh.2 i (by omega)
          go_wp2
          (try (go_region; go_wp2))
          go_roundg (8 - (i + 1))
          case measure => have := HK2.out; omega
          case rel =>
            refine ⟨i + 1, Lo.set i (P.getD i 0), Hi.set i (P.getD (i + 8) 0), rfl, by omega, by go_num, by rw [List.length_set]; exact lL, by rw [List.length_set]; exact lH, fun t ht => ?_, fun t ht => ?_, (B.setCell o3 _).setCell o4 _, (hR.set d1.symm _).set d4.symm _, (hS.set d2.symm _).set d5.symm _, (hP.other d3.symm _).other d6.symm _, (hl.set i (by omega) _).other d7.symm _, (hh.other d7 _).set i (by omega) _⟩
            · by_cases e : t = i
              · subst e; rw [getD_set_eq (by omega)]
              · rw [getD_set_ne e]; exact EE.out.1 t (by omega)
            · by_cases e : t = i
              · subst e; rw [getD_set_eq (by omega)]
              · rw [getD_set_ne e]; exact EE.out.2 t (by omega)
    · have hi' : (i : Int) < 8 := by omega
      have gx := hA.1 i (by omega)
      have hx := GA.out.1.getD i
      have tkA := vd_take As i (by omega)
      generalize hxe : As.getD i 0 = x at *
      have HX : Hid (Dig x ∧ vd (As.take (i + 1)) = vd (As.take i) + 4294967296 ^ i * x ∧ As.getD i 0 = x) := ⟨hx, tkA, hxe⟩
      clear hx tkA hxe
      go_wp2_with fail
      go_loopg [10, 11] 8 (fun k cv jv wr => ∃ (j : Nat) (P : List Int) (c : Int), k = 8 - j ∧ j ≤ 8 ∧ cv = .int .u64 c ∧ jv = .int .i64 j ∧ Dig c ∧ P.length = 16 ∧ Digs P ∧ (∀ t, i + 8 ≤ t → P.getD t 0 = 0) ∧ vd P + 4294967296 ^ i * 4294967296 ^ j * c = vd (As.take i) * m + 4294967296 ^ i * (x * vd (Bs.take j)) ∧ Below w.heap.size w wr ∧ Blank wr br ∧ Blank wr bs ∧ Dgs wr ba As ∧ Dgs wr bb Bs ∧ Dgs wr bp P)
      case atStart => exact ⟨0, P, 0, rfl, by decide, rfl, rfl, ⟨by decide, by decide⟩, hL, GP.out.1, GP.out.2, by have := IV.out; simp [vd]; exact this, B, hR, hS, hA, hB, hP⟩
      case round =>
        clear B hR hS hA hB hP gx IV GP hL P
        obtain ⟨j, P, c, hk, hj, rfl, rfl, hc, hL, gL, tl, inv, B, hR, hS, hA, hB, hP⟩ := hrel
        have HK2 : Hid (gk = 8 - j) := hk
        have IV : Hid (vd P + 4294967296 ^ i * 4294967296 ^ j * c = vd (As.take i) * m + 4294967296 ^ i * (x * vd (Bs.take j))) := inv
        have GP : Hid (Digs P ∧ ∀ t, i + 8 ≤ t → P.getD t 0 = 0) := ⟨gL, tl⟩
        clear inv gL hk tl
        by_cases h8 : j = 8
        · subst h8
          have eo : ((i : Int) + 8).toNat = i + 8 := by omega
          have gp := hP.1 (i + 8) (by omega)
          have fp := hP.2 (i + 8) (by omega)
          have tk : Bs.take 8 = Bs := by rw [← lB]; exact List.take_length
          have iv := IV.out
          rw [tk, GB.out.2] at iv
          have E : Hid (vd (P.set (i + 8) c) = vd (As.take (i + 1)) * m) := by
            rw [vd_set P (i + 8) c (by omega), GP.out.2 (i + 8) (by omega), Int.sub_zero, HX.out.2.1, Int.pow_add]
            exact mul_out iv
          have HC : Hid (Dig c) := hc
          clear iv tk IV hc
          go_wp2
          (try (go_region; go_wp2))
          go_roundg (8 - (i + 1))
          case measure => have := HK.out; omega
          case rel => exact ⟨i + 1, P.set (i + 8) c, rfl, by omega, by go_num, by rw [List.length_set]; exact hL, GP.out.1.set _ HC.out, fun t ht => by rw [getD_set_ne (by omega)]; exact GP.out.2 t (by omega), E.out, B.setCell o2 _, hR.set c1.symm _, hS.set c2.symm _, hA.other c3.symm _, hB.other c4.symm _, hP.set (i + 8) (by omega) _⟩
        · have hj' : (j : Int) < 8 := by omega
          have eo : ((i : Int) + (j : Int)).toNat = i + j := by omega
          have gx := hA.1 i (by omega)
          rw [HX.out.2.2] at gx
          have gy := hB.1 j (by omega)
          have gp := hP.1 (i + j) (by omega)
          have fp := hP.2 (i + j) (by omega)
          have hy := GB.out.1.getD j
          have hp := GP.out.1.getD (i + j)
          have tkB := vd_take Bs j (by omega)
          have S : Hid (∀ v c', v + 4294967296 * c' = P.getD (i + j) 0 + x * Bs.getD j 0 + c → vd (P.set (i + j) v) + 4294967296 ^ i * 4294967296 ^ (j + 1) * c' = vd (As.take i) * m + 4294967296 ^ i * (x * vd (Bs.take (j + 1)))) := fun v c' h => by
            rw [vd_set P (i + j) v (by omega), tkB, Int.pow_add, Int.pow_succ, ← Int.mul_assoc]
            exact mul_step h IV.out
          obtain ⟨z0, z1, z2, z3⟩ := prod_dig HX.out.1 hy hp hc
          clear tkB IV hy
          generalize P.getD (i + j) 0 = p at *
          generalize Bs.getD j 0 = y at *
          obtain ⟨c0', c1'⟩ := hc
          obtain ⟨p0, p1⟩ := hp
          generalize hz : x * y = z at *
          go_wp2
          (try (go_region; go_wp2))
          go_roundg (8 - (j + 1))
          case measure => have := HK2.out; omega
          case rel => exact ⟨j + 1, P.set (i + j) ((p + z + c) % 4294967296), (p + z + c) / 4294967296, rfl, by omega, rfl, by go_num, ⟨by omega, by omega⟩, by rw [List.length_set]; exact hL, GP.out.1.set _ ⟨by omega, by omega⟩, fun t ht => by rw [getD_set_ne (by omega)]; exact GP.out.2 t (by omega), S.out _ _ (by omega), B.drew.setCell o2 _, hR.drew.set c1.symm _, hS.drew.set c2.symm _, hA.drew.other c3.symm _, hB.drew.other c4.symm _, hP.drew.set (i + j) (by omega) _⟩

end Go.Proofs.YtlpmphldmfefkaaDoor

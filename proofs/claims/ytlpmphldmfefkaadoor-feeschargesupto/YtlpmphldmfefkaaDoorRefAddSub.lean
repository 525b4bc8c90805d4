import Derived.Test.YtlpmphldmfefkaaDoorRef1
import Derived.Test.YtlpmphldmfefkaaDoorHold
import Derived.Test.YtlpmphldmfefkaaDoorShl
import Derived.Test.YtlpmphldmfefkaaDoorShelf
import Derived.Lib.ItoaNum
import Derived.Deep.LoopGhost
namespace Go.Proofs.YtlpmphldmfefkaaDoor
open Go.RowKit

set_option maxHeartbeats 2000000 in
theorem radd_any {n m : Int} (hn : Num n) (hm : Num m) (w : World) :
    Calls Tryd.prog 62 #[.agg #[.int .u64 (l0 n), .int .u64 (l1 n), .int .u64 (l2 n), .int .u64 (l3 n)], .agg #[.int .u64 (l0 m), .int .u64 (l1 m), .int .u64 (l2 m), .int .u64 (l3 m)]] w fun e w' => e = .returned (.tuple #[.agg #[.int .u64 (l0 (sumN n m)), .int .u64 (l1 (sumN n m)), .int .u64 (l2 (sumN n m)), .int .u64 (l3 (sumN n m))], .int .u64 (carN n m)]) ∧ Below w.heap.size w w' := by
  obtain ⟨a0, a1, a2, a3, a4, a5, a6, a7, gA, eA, DA'⟩ := digits_names hn
  obtain ⟨b0, b1, b2, b3, b4, b5, b6, b7, gB, eB, DB'⟩ := digits_names hm
  have DA : Hid _ := DA'
  have DB : Hid _ := DB'
  clear DA' DB'
  go_enter Tryd.func62, Tryd.ntmps62
  go_wp2_with fail
  refine calls_world (fun W => Below w.heap.size w W ∧ Hold W (w.heap.size + 1) m ∧ Blank W (w.heap.size + 1 + 1)) ⟨?_, ?_, ?_⟩ ?_
  · repeat (first | with_reducible exact Below.refl _ _ | with_reducible refine Below.alloc ?_ (by first | omega | (simp; done) | (simp; omega)) _)
  · exact (Hold.fresh (by simp)).alloc _
  · exact Blank.new (by simp)
  rintro W ⟨B, hY, hR⟩
  have o1 : w.heap.size ≤ w.heap.size + 1 + 1 := by omega
  generalize w.heap.size + 1 + 1 = br at *
  generalize w.heap.size + 1 = bw at *
  refine (DA.out _).mono ?_
  rintro e w1 ⟨rfl, hb⟩
  replace B := B.trans (hb.mono B.size)
  replace hY := hY.keep hb; replace hR := hR.keep hb
  clear hb W
  have gY := hY.allocs
  go_wp2_with fail
  have c1 : w1.heap.size ≠ br := by have := hR.1.lt (by simp); omega
  have o2 : w.heap.size ≤ w1.heap.size := B.size
  refine calls_world (fun W => Below w.heap.size w W ∧ Blank W br ∧ Dgs W w1.heap.size [a0, a1, a2, a3, a4, a5, a6, a7]) ⟨B.alloc B.size _, hR.alloc _, Dgs.new w1 [a0, a1, a2, a3, a4, a5, a6, a7] 78⟩ ?_
  clear B hY hR gY
  rintro W ⟨B, hR, hA⟩
  generalize w1.heap.size = ba at *
  refine (DB.out _).mono ?_
  rintro e w2 ⟨rfl, hb⟩
  replace B := B.trans (hb.mono B.size)
  replace hR := hR.keep hb; replace hA := hA.keep (by simp) hb
  clear hb W
  have c2 : w2.heap.size ≠ br := by have := hR.1.lt (by simp); omega
  have c3 : w2.heap.size ≠ ba := by have := hA.1.lt (by simp); omega
  go_wp2_with fail
  refine wp_world (fun W => Below w.heap.size w W ∧ Blank W br ∧ Dgs W ba [a0, a1, a2, a3, a4, a5, a6, a7] ∧ Dgs W w2.heap.size [b0, b1, b2, b3, b4, b5, b6, b7]) ⟨B.alloc B.size _, hR.alloc _, hA.alloc (by simp) _, Dgs.new w2 [b0, b1, b2, b3, b4, b5, b6, b7] 78⟩ ?_
  clear B hR hA
  rintro W ⟨B, hR, hA, hB⟩
  generalize w2.heap.size = bb at *
  have GB : Hid (Digs [b0, b1, b2, b3, b4, b5, b6, b7] ∧ vd [b0, b1, b2, b3, b4, b5, b6, b7] = m) := ⟨gB, eB⟩
  generalize hBs : [b0, b1, b2, b3, b4, b5, b6, b7] = Bs at *
  have lB : Bs.length = 8 := by rw [← hBs]; rfl
  clear hBs gB eB DA DB
  have NN : Hid (Num n ∧ Num m) := ⟨hn, hm⟩
  clear hn hm
  go_loopg [8, 9] 8 (fun k bv iv wr => ∃ (i : Nat) (L : List Int) (c : Int), k = 8 - i ∧ i ≤ 8 ∧ bv = .int .u64 c ∧ iv = .int .i64 i ∧ (0 ≤ c ∧ c ≤ 1) ∧ L.length = 8 ∧ Digs L ∧ vd L + 4294967296 ^ i * c = n + vd (Bs.take i) ∧ Below w.heap.size w wr ∧ Blank wr br ∧ Dgs wr ba L ∧ Dgs wr bb Bs)
  case atStart => exact ⟨0, _, 0, rfl, by decide, rfl, rfl, ⟨by decide, by decide⟩, rfl, gA, by simp [vd] at eA ⊢; omega, B, hR, hA, hB⟩
  case round =>
    clear B hR hA hB gA eA
    obtain ⟨i, L, c, hk, hi, rfl, rfl, ⟨c0, c1'⟩, hL, gL, inv, B, hR, hA, hB⟩ := hrel
    have IV : Hid (vd L + 4294967296 ^ i * c = n + vd (Bs.take i)) := inv
    have GL : Hid (Digs L) := gL
    have HK : Hid (gk = 8 - i) := hk
    clear inv gL hk
    by_cases h8 : i = 8
    · subst h8
      obtain ⟨x0, x1, x2, x3, x4, x5, x6, x7, rfl⟩ := len8 hL
      have b8 := vd_bound GL.out
      have tk : Bs.take 8 = Bs := by rw [← lB]; exact List.take_length
      have iv := IV.out
      rw [tk, GB.out.2] at iv
      obtain ⟨ev, ec⟩ := sum_of b8.1 b8.2 iv
      have NB : Hid (∀ w, Calls Tryd.prog 80 #[.agg #[.int .u64 x0, .int .u64 x1, .int .u64 x2, .int .u64 x3, .int .u64 x4, .int .u64 x5, .int .u64 x6, .int .u64 x7]] w fun e w' => e = .returned (.agg #[.int .u64 (l0 (sumN n m)), .int .u64 (l1 (sumN n m)), .int .u64 (l2 (sumN n m)), .int .u64 (l3 (sumN n m))]) ∧ Below w.heap.size w w') := fun w => number_any (l := [x0, x1, x2, x3, x4, x5, x6, x7]) rfl GL.out ev w
      subst ec
      clear b8 tk iv ev IV hB c0 c1'
      have gA := hA.1.all8
      go_wp2_with fail
      refine (NB.out _).mono ?_
      rintro e w3 ⟨rfl, hb⟩
      replace B := B.trans (hb.mono B.size)
      replace hR := hR.keep hb
      clear hb gA hA
      have gR := hR.1.all4; have fR := hR.2.all4
      go_wp2
      simp [bodyPost, results, Tryd.results62, go_sem, gR]
      exact below_set4 B o1 _ _ _ _
    · have hi' : (i : Int) < 8 := by omega
      have hx := GL.out.getD i
      have hy := GB.out.1.getD i
      have gx := hA.1 i (by omega)
      have gy := hB.1 i (by omega)
      have fx := hA.2 i (by omega)
      have st := vd_set L i
      have tk := vd_take Bs i (by omega)
      have iv := IV.out
      have S : Hid (∀ v c', v + 4294967296 * c' = L.getD i 0 + Bs.getD i 0 + c → vd (L.set i v) + 4294967296 ^ (i + 1) * c' = n + vd (Bs.take (i + 1))) := fun v c' h => by
        rw [st v (by omega), tk, Int.pow_succ]; exact add_step h iv
      clear st tk iv IV
      generalize ex : L.getD i 0 = x at *
      generalize ey : Bs.getD i 0 = y at *
      clear ex ey
      obtain ⟨x0, x1⟩ := hx; obtain ⟨y0, y1⟩ := hy
      go_wp2
      go_region
      go_wp2
      go_roundg (8 - (i + 1))
      case measure => have := HK.out; omega
      case rel =>
        exact ⟨i + 1, L.set i ((x + y + c) % 4294967296), (x + y + c) / 4294967296, rfl, by omega, rfl, by go_num, ⟨by omega, by omega⟩, by rw [List.length_set]; exact hL, GL.out.set i ⟨by omega, by omega⟩, S.out _ _ (by omega), B.drew.setCell o2 _, hR.drew.set c1 _, hA.drew.set i (by omega) _, hB.drew.other c3.symm _⟩

end Go.Proofs.YtlpmphldmfefkaaDoor

namespace Go.Proofs.YtlpmphldmfefkaaDoor
open Go.RowKit

set_option maxHeartbeats 2000000 in
theorem rsub_any {n m : Int} (hn : Num n) (hm : Num m) (w : World) :
    Calls Tryd.prog 60 #[.agg #[.int .u64 (l0 n), .int .u64 (l1 n), .int .u64 (l2 n), .int .u64 (l3 n)], .agg #[.int .u64 (l0 m), .int .u64 (l1 m), .int .u64 (l2 m), .int .u64 (l3 m)]] w fun e w' => e = .returned (.tuple #[.agg #[.int .u64 (l0 (difN n m)), .int .u64 (l1 (difN n m)), .int .u64 (l2 (difN n m)), .int .u64 (l3 (difN n m))], .int .u64 (borN n m)]) ∧ Below w.heap.size w w' := by
  obtain ⟨a0, a1, a2, a3, a4, a5, a6, a7, gA, eA, DA'⟩ := digits_names hn
  obtain ⟨b0, b1, b2, b3, b4, b5, b6, b7, gB, eB, DB'⟩ := digits_names hm
  have DA : Hid _ := DA'
  have DB : Hid _ := DB'
  clear DA' DB'
  go_enter Tryd.func60, Tryd.ntmps60
  go_wp2_with fail
  refine calls_world (fun W => Below w.heap.size w W ∧ Hold W (w.heap.size + 1) m ∧ Blank W (w.heap.size + 1 + 1)) ⟨?_, ?_, ?_⟩ ?_
  · repeat (first | with_reducible exact Below.refl _ _ | with_reducible refine Below.alloc ?_ (by first | omega | (simp; done) | (simp; omega)) _)
  · exact (Hold.fresh (by simp)).alloc _
  · exact Blank.new (by simp)
  rintro W ⟨B, hY, hR⟩
  have o1 : w.heap.size ≤ w.heap.size + 1 + 1 := by omega
  generalize w.heap.size + 1 + 1 = br at *
  generalize w.heap.size + 1 = bw at *
  refine (DA.out _).mono ?_
  rintro e w1 ⟨rfl, hb⟩
  replace B := B.trans (hb.mono B.size)
  replace hY := hY.keep hb; replace hR := hR.keep hb
  clear hb W
  have gY := hY.allocs
  go_wp2_with fail
  have c1 : w1.heap.size ≠ br := by have := hR.1.lt (by simp); omega
  have o2 : w.heap.size ≤ w1.heap.size := B.size
  refine calls_world (fun W => Below w.heap.size w W ∧ Blank W br ∧ Dgs W w1.heap.size [a0, a1, a2, a3, a4, a5, a6, a7]) ⟨B.alloc B.size _, hR.alloc _, Dgs.new w1 [a0, a1, a2, a3, a4, a5, a6, a7] 78⟩ ?_
  clear B hY hR gY
  rintro W ⟨B, hR, hA⟩
  generalize w1.heap.size = ba at *
  refine (DB.out _).mono ?_
  rintro e w2 ⟨rfl, hb⟩
  replace B := B.trans (hb.mono B.size)
  replace hR := hR.keep hb; replace hA := hA.keep (by simp) hb
  clear hb W
  have c2 : w2.heap.size ≠ br := by have := hR.1.lt (by simp); omega
  have c3 : w2.heap.size ≠ ba := by have := hA.1.lt (by simp); omega
  go_wp2_with fail
  refine wp_world (fun W => Below w.heap.size w W ∧ Blank W br ∧ Dgs W ba [a0, a1, a2, a3, a4, a5, a6, a7] ∧ Dgs W w2.heap.size [b0, b1, b2, b3, b4, b5, b6, b7]) ⟨B.alloc B.size _, hR.alloc _, hA.alloc (by simp) _, Dgs.new w2 [b0, b1, b2, b3, b4, b5, b6, b7] 78⟩ ?_
  clear B hR hA
  rintro W ⟨B, hR, hA, hB⟩
  generalize w2.heap.size = bb at *
  have GB : Hid (Digs [b0, b1, b2, b3, b4, b5, b6, b7] ∧ vd [b0, b1, b2, b3, b4, b5, b6, b7] = m) := ⟨gB, eB⟩
  generalize hBs : [b0, b1, b2, b3, b4, b5, b6, b7] = Bs at *
  have lB : Bs.length = 8 := by rw [← hBs]; rfl
  clear hBs gB eB DA DB
  have NN : Hid (Num n ∧ Num m) := ⟨hn, hm⟩
  clear hn hm
  go_loopg [8, 9] 8 (fun k bv iv wr => ∃ (i : Nat) (L : List Int) (c : Int), k = 8 - i ∧ i ≤ 8 ∧ bv = .int .u64 c ∧ iv = .int .i64 i ∧ (0 ≤ c ∧ c ≤ 1) ∧ L.length = 8 ∧ Digs L ∧ vd L - 4294967296 ^ i * c = n - vd (Bs.take i) ∧ Below w.heap.size w wr ∧ Blank wr br ∧ Dgs wr ba L ∧ Dgs wr bb Bs)
  case atStart => exact ⟨0, _, 0, rfl, by decide, rfl, rfl, ⟨by decide, by decide⟩, rfl, gA, by simp [vd] at eA ⊢; omega, B, hR, hA, hB⟩
  case round =>
    clear B hR hA hB gA eA
    obtain ⟨i, L, c, hk, hi, rfl, rfl, ⟨c0, c1'⟩, hL, gL, inv, B, hR, hA, hB⟩ := hrel
    have IV : Hid (vd L - 4294967296 ^ i * c = n - vd (Bs.take i)) := inv
    have GL : Hid (Digs L) := gL
    have HK : Hid (gk = 8 - i) := hk
    clear inv gL hk
    by_cases h8 : i = 8
    · subst h8
      obtain ⟨x0, x1, x2, x3, x4, x5, x6, x7, rfl⟩ := len8 hL
      have b8 := vd_bound GL.out
      have tk : Bs.take 8 = Bs := by rw [← lB]; exact List.take_length
      have iv := IV.out
      rw [tk, GB.out.2] at iv
      obtain ⟨ev, ec⟩ := dif_of NN.out.1 NN.out.2 b8.1 b8.2 c0 c1' iv
      have NB : Hid (∀ w, Calls Tryd.prog 80 #[.agg #[.int .u64 x0, .int .u64 x1, .int .u64 x2, .int .u64 x3, .int .u64 x4, .int .u64 x5, .int .u64 x6, .int .u64 x7]] w fun e w' => e = .returned (.agg #[.int .u64 (l0 (difN n m)), .int .u64 (l1 (difN n m)), .int .u64 (l2 (difN n m)), .int .u64 (l3 (difN n m))]) ∧ Below w.heap.size w w') := fun w => number_any (l := [x0, x1, x2, x3, x4, x5, x6, x7]) rfl GL.out ev w
      subst ec
      clear b8 tk iv ev IV hB c0 c1'
      have gA := hA.1.all8
      go_wp2_with fail
      refine (NB.out _).mono ?_
      rintro e w3 ⟨rfl, hb⟩
      replace B := B.trans (hb.mono B.size)
      replace hR := hR.keep hb
      clear hb gA hA
      have gR := hR.1.all4; have fR := hR.2.all4
      go_wp2
      simp [bodyPost, results, Tryd.results60, go_sem, gR]
      exact below_set4 B o1 _ _ _ _
    · have hi' : (i : Int) < 8 := by omega
      have hx := GL.out.getD i
      have hy := GB.out.1.getD i
      have gx := hA.1 i (by omega)
      have gy := hB.1 i (by omega)
      have fx := hA.2 i (by omega)
      have st := vd_set L i
      have tk := vd_take Bs i (by omega)
      have iv := IV.out
      have S : Hid (∀ v c', v = L.getD i 0 - (Bs.getD i 0 + c) + 4294967296 * c' → vd (L.set i v) - 4294967296 ^ (i + 1) * c' = n - vd (Bs.take (i + 1))) := fun v c' h => by
        rw [st v (by omega), tk, Int.pow_succ]; exact sub_step h iv
      clear st tk iv IV
      generalize ex : L.getD i 0 = x at *
      generalize ey : Bs.getD i 0 = y at *
      clear ex ey
      obtain ⟨x0, x1⟩ := hx; obtain ⟨y0, y1⟩ := hy
      by_cases lt : x < y + c
      · go_wp2
        go_roundg (8 - (i + 1))
        case measure => have := HK.out; omega
        case rel =>
          refine ⟨i + 1, L.set i (x + 4294967296 - (y + c)), 1, rfl, by omega, rfl, by go_num, ⟨by decide, by decide⟩, by rw [List.length_set]; exact hL, GL.out.set i ⟨by omega, by omega⟩, S.out _ 1 (by omega), (B.setCell o2 _).setCell o2 _, (hR.set c1 _).set c1 _, ?_, (hB.other c3.symm _).other c3.symm _⟩
          have := (hA.set i (by omega) (x + 4294967296)).set i (by rw [List.length_set]; omega) (x + 4294967296 - (y + c))
          rw [List.set_set] at this
          exact this
      · go_wp2
        go_roundg (8 - (i + 1))
        case measure => have := HK.out; omega
        case rel =>
          exact ⟨i + 1, L.set i (x - (y + c)), 0, rfl, by omega, rfl, by go_num, ⟨by decide, by decide⟩, by rw [List.length_set]; exact hL, GL.out.set i ⟨by omega, by omega⟩, S.out _ 0 (by omega), B.setCell o2 _, hR.set c1 _, hA.set i (by omega) _, hB.other c3.symm _⟩

end Go.Proofs.YtlpmphldmfefkaaDoor

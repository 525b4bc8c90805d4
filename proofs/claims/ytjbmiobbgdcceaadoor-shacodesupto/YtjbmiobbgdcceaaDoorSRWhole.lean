import Derived.Test.YtjbmiobbgdcceaaDoorSRParcel
import Derived.Test.YtjbmiobbgdcceaaDoorSFills
import Derived.Test.YtjbmiobbgdcceaaDoorSRLaw
/- The statement's whole: parcels that are as they were. -/
namespace Go.Proofs.YtjbmiobbgdcceaaDoor
open Go.RowKit Go.Sort

theorem one_mark {W : World} {m : Nat} {x : BitVec 8} (h : W.cell? ⟨m, 0, none⟩ = some (.int .u8 (Y x))) : Byo W m 0 [x] := fun i hi => by
  have : i = 0 := by simpa using hi
  subst this
  exact h
set_option maxRecDepth 100000 in
set_option maxHeartbeats 8000000 in
theorem whole_any {a : Option Addr} {bp op cp g c m1 m2 : Nat} {PS QS : List Part} (hn : PS.length ≤ 1073740000) (hq : QS.length = PS.length) (hx : QS.map (·.X) = PS.map (·.X)) (hs : ∀ p ∈ PS, p.X.length < 1073741000) (hc : PS.length + 2 ≤ c) (ha : PS = [] ∨ a = some ⟨bp, op, none⟩) (w : World) (hP : Prts w bp op PS) (hQ : Prts w g 0 QS)
    (hL : ∀ q ∈ QS, Gb w q.b (q.X ++ List.replicate 70 165) ∧ q.X.length + 70 ≤ q.c ∧ q.a = some ⟨q.b, 0, none⟩) (hm1 : w.cell? ⟨g, PS.length, none⟩ = some (.slice (some ⟨m1, 0, none⟩) 1 1)) (hm2 : w.cell? ⟨g, PS.length + 1, none⟩ = some (.slice (some ⟨m2, 0, none⟩) 1 1)) (hv1 : w.cell? ⟨m1, 0, none⟩ = some (.int .u8 165)) (hv2 : w.cell? ⟨m2, 0, none⟩ = some (.int .u8 90)) :
    Calls Tryd.prog 8 #[.slice (some ⟨g, 0, none⟩) PS.length c, .slice a PS.length cp] w fun e w' => e = .returned (.bool true) ∧ Below w.heap.size w w' := by
  have y165 : Y 165 = 165 := by rw [Y_eq]; rfl
  have y90 : Y 90 = 90 := by rw [Y_eq]; rfl
  have HA : Hid (Prts w bp op PS ∧ Prts w g 0 QS ∧ QS.length = PS.length ∧ QS.map (·.X) = PS.map (·.X) ∧ (∀ p ∈ PS, p.X.length < 1073741000) ∧ (PS = [] ∨ a = some ⟨bp, op, none⟩) ∧ (∀ q ∈ QS, Gb w q.b (q.X ++ List.replicate 70 165) ∧ q.X.length + 70 ≤ q.c ∧ q.a = some ⟨q.b, 0, none⟩)) := ⟨hP, hQ, hq, hx, hs, ha, hL⟩
  have HM : Hid (w.cell? ⟨g, PS.length, none⟩ = some (.slice (some ⟨m1, 0, none⟩) 1 1) ∧ w.cell? ⟨g, PS.length + 1, none⟩ = some (.slice (some ⟨m2, 0, none⟩) 1 1) ∧ Byo w m1 0 [165] ∧ Byo w m2 0 [90]) := ⟨hm1, hm2, one_mark (by rw [y165]; exact hv1), one_mark (by rw [y90]; exact hv2)⟩
  have HY : Hid (Y 165 = 165 ∧ Y 90 = 90) := ⟨y165, y90⟩
  have ni : (PS.length : Int) ≤ 1073740000 := by omega
  have ci : (PS.length : Int) + 2 ≤ (c : Int) := by omega
  clear hP hQ hq hx hs ha hL hm1 hm2 hv1 hv2 y165 y90 hn hc
  go_enter Tryd.func8, Tryd.ntmps8
  go_wp2_with fail
  go_loopg [5] PS.length (fun k iv wr => ∃ i : Nat, k = PS.length - i ∧ i ≤ PS.length ∧ iv = .int .i64 i ∧ Below w.heap.size w wr)
  case atStart => exact ⟨0, rfl, Nat.zero_le _, rfl, Below.refl _ _⟩
  case round =>
    obtain ⟨i, hk, hi, rfl, B⟩ := hrel
    have HK : Hid (gk = PS.length - i) := hk
    have HF : Hid (Below w.heap.size w wr) := B
    clear hk B
    by_cases h8 : i = PS.length
    · subst h8
      have kc : ∀ {p : Addr} {v : Value}, w.cell? p = some v → wr.cell? p = some v := fun h => by rw [HF.out.cell (World.block_lt_of_cell? w _ h)]; exact h
      have e1 := kc HM.out.1
      have e2 := kc HM.out.2.1
      have k1 : ((PS.length : Int) + 1).toNat = PS.length + 1 := by omega
      clear hi
      go_wp2_with fail
      have c1 := same_yes (X := [165]) (a := some ⟨m1, 0, none⟩) (c := some ⟨wr.heap.size, 0, none⟩) (ba := m1) (oa := 0) (ca := 1) (bb := wr.heap.size) (ob := 0) (cb := 1) (by decide) (.inr rfl) (.inr rfl) (wr.alloc (.cells #[.int .u8 165] 5)) ((HM.out.2.2.1.keep HF.out).keep ((Below.refl _ _).alloc (Nat.le_refl _) _)) (one_mark (by rw [World.cell?_alloc_mark, HY.out.1]; rfl))
      refine c1.mono ?_
      clear c1
      rintro e w3 ⟨rfl, hb⟩
      have B3 : Below wr.heap.size wr w3 := ((Below.refl _ _).alloc (Nat.le_refl _) _).trans (hb.mono (by simp))
      have H3 : Hid (Below w.heap.size w w3) := HF.out.trans (B3.mono HF.out.size)
      replace e2 := cell_keep B3 e2
      clear hb B3 e1 kc
      go_wp2_with fail
      have c1 := same_yes (X := [90]) (a := some ⟨m2, 0, none⟩) (c := some ⟨w3.heap.size, 0, none⟩) (ba := m2) (oa := 0) (ca := 1) (bb := w3.heap.size) (ob := 0) (cb := 1) (by decide) (.inr rfl) (.inr rfl) (w3.alloc (.cells #[.int .u8 90] 5)) ((HM.out.2.2.2.keep H3.out).keep ((Below.refl _ _).alloc (Nat.le_refl _) _)) (one_mark (by rw [World.cell?_alloc_mark, HY.out.2]; rfl))
      refine c1.mono ?_
      clear c1
      rintro e w4 ⟨rfl, hb⟩
      have H4 : Hid (Below w.heap.size w w4) := H3.out.trans ((((Below.refl _ _).alloc (Nat.le_refl _) _).trans (hb.mono (by simp))).mono H3.out.size)
      clear hb e2
      go_wp2
      simp [bodyPost, results, Tryd.results8, go_sem]
      exact H4.out
    · have hlt : i < PS.length := by omega
      have hlt' : (i : Int) < (PS.length : Int) := by omega
      have ea : a = some ⟨bp, op, none⟩ := by
        rcases HA.out.2.2.2.2.2.1 with h | h
        · rw [h] at hlt; simp at hlt
        · exact h
      subst ea
      have hp := HA.out.1 i hlt
      have hq := HA.out.2.1 i (by rw [HA.out.2.2.1]; exact hlt)
      have pm : PS.getD i .none ∈ PS := by rw [List.getD, List.getElem?_eq_getElem hlt]; exact List.getElem_mem hlt
      have qm : QS.getD i .none ∈ QS := by rw [List.getD, List.getElem?_eq_getElem (by rw [HA.out.2.2.1]; exact hlt)]; exact List.getElem_mem _
      have xx : (QS.getD i .none).X = (PS.getD i .none).X := by
        have h := congrArg (fun l => l[i]?) HA.out.2.2.2.1
        simp only [List.getElem?_map] at h
        rw [List.getElem?_eq_getElem hlt, List.getElem?_eq_getElem (show i < QS.length by rw [HA.out.2.2.1]; exact hlt)] at h
        rw [List.getD, List.getD, List.getElem?_eq_getElem hlt, List.getElem?_eq_getElem (show i < QS.length by rw [HA.out.2.2.1]; exact hlt)]
        simpa using h
      obtain ⟨p, kp⟩ : ∃ p, p = PS.getD i .none := ⟨_, rfl⟩
      obtain ⟨q, kq⟩ : ∃ q, q = QS.getD i .none := ⟨_, rfl⟩
      rw [← kp] at hp pm xx
      rw [← kq] at hq qm xx
      obtain ⟨l1, l2, l3⟩ := HA.out.2.2.2.2.2.2 q qm
      rw [xx] at l1 l2
      have SC : Hid (∀ W, Below w.heap.size w W → Calls Tryd.prog 9 #[.slice (some ⟨q.b, 0, none⟩) p.X.length q.c, .slice p.a p.X.length p.c] W fun e w' => e = .returned (.bool true) ∧ Below W.heap.size W w') := fun W hW => still_any (by have := HA.out.2.2.2.2.1 p pm; omega) l2 hp.2.1 W (l1.1.keep hW) (hp.2.2.2.keep hW)
      have gq : wr.cell? ⟨g, i, none⟩ = some (.slice (some ⟨q.b, 0, none⟩) p.X.length q.c) := by
        have h := hq.1
        rw [Nat.zero_add] at h
        rw [HF.out.cell (p := ⟨g, i, none⟩) (World.block_lt_of_cell? w _ h), h, Part.val, l3, xx]
      have gp : wr.cell? ⟨bp, op + i, none⟩ = some (.slice p.a p.X.length p.c) := by
        rw [HF.out.cell (p := ⟨bp, op + i, none⟩) (World.block_lt_of_cell? w _ hp.1), hp.1]; rfl
      have kB : ∀ d os, Below w.heap.size w (grow (redrawn wr d) os) := fun d os => HF.out.trans ((below_regrown wr d os).mono HF.out.size)
      have rq := fun d os => cell_regrown gq d os
      have rp := fun d os => cell_regrown gp d os
      clear hp hq pm qm xx kp kq l1 l2 l3 gq gp hi h8
      go_wp2_with fail
      refine wp_region_quiet_below (by kernel_rfl) (by kernel_rfl) ?_
      repeat
        first
          | go_big_quiet_skip
          | (go_big_quiet_want; go_big_quiet_op; go_big_quiet_on)
          | (go_big_quiet_want
             go_big_quiet_op
             apply Exists.intro
             refine ⟨fun r => ?_, ?_⟩
             · (go_at_call 9; with_reducible exact Calls.regrown_of (SC.out _ (kB r.d r.os)))
             go_big_quiet_on)
      refine wpQuiet_nil ?_
      rintro w5 ⟨r, rfl⟩
      have H5 : Hid (Below w.heap.size w (grow (redrawn wr r.d) r.os)) := kB r.d r.os
      generalize grow (redrawn wr r.d) r.os = w5 at *
      clear HF SC kB rq rp
      go_wp2
      go_roundg (PS.length - (i + 1))
      case measure => have := HK.out; omega
      case rel => exact ⟨i + 1, rfl, by omega, by go_num, H5.out⟩
end Go.Proofs.YtjbmiobbgdcceaaDoor

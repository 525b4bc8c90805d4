import Derived.Test.YtllfmlgnemkklaaDoorTxZ
import Derived.Deep.LoopGhost
/- Layer 15, the document: none, zero, stands, Row. -/
namespace Go.Proofs.YtllfmlgnemkklaaDoor
open Go.RowKit Go.Sort
open tq
set_option maxHeartbeats 4000000 in
theorem rnone_any {x : Int} (hx : Num x) (w : World) : Calls Tryd.prog 63 #[.agg #[.int .u64 (l0 x), .int .u64 (l1 x), .int .u64 (l2 x), .int .u64 (l3 x)]] w fun e w' => e = .returned (.bool (decide (x = 0))) ∧ Below w.heap.size w w' := by
  have hz := build_zero
  have he := eq_zeroT hx
  generalize decide (x = 0) = z at *
  clear hx
  go_enter Tryd.func63, Tryd.ntmps63
  go_wp2
  simp [bodyPost, results, Tryd.results63, go_sem]
  repeat (first | with_reducible exact Below.refl _ _ | with_reducible refine Below.drew ?_ | with_reducible refine Below.alloc ?_ (by first | omega | (simp; done) | (simp; omega)) _)
/-- Is the field zero? -/
def zeroT (t : Txv) : Nat → Bool
  | 0 => decide (t.ch = 0)
  | 1 => decide (t.no = 0)
  | 2 => decide (t.pr = 0)
  | 3 => decide (t.ti = 0)
  | 4 => decide (t.ca = 0)
  | 5 => decide (t.gas = 0)
  | 6 => (!t.cr && decide (t.to = List.replicate 20 0))
  | 7 => decide (t.va = 0)
  | 8 => decide (t.Dl.length = 0)
  | 9 => decide (t.El.length = 0)
  | 10 => decide (t.bc = 0)
  | 11 => decide (t.Hsl.length = 0)
  | 12 => decide (t.Ul.length = 0)
  | _ => true
set_option maxRecDepth 100000 in
set_option maxHeartbeats 4000000 in
theorem rzero_0 {W0 : World} {t : Txv} (hG : TxG W0 t) (w : World) :
    Calls Tryd.prog 57 #[.agg (txC t).toArray, .int .i64 0] w fun e w' => e = .returned (.bool (zeroT t 0)) ∧ Below w.heap.size w w' := by
  have h20 := hG.to.1
  show Calls _ _ _ _ fun e w' => e = .returned (.bool (decide (t.ch = 0))) ∧ _
  have g := (txb_one (w := w) h20 32).ch
  have he : (t.ch == 0) = decide (t.ch = 0) := by
    by_cases h : t.ch = 0
    · rw [h]; rfl
    · rw [decide_eq_false h]; exact beq_eq_false_iff_ne.2 h
  rw [← he]
  clear hG h20 he
  generalize txC t = M at *
  generalize t.ch = x at *
  go_enter Tryd.func57, Tryd.ntmps57
  go_wp2
  simp [bodyPost, results, Tryd.results57, go_sem]
  repeat (first | with_reducible exact Below.refl _ _ | with_reducible refine Below.drew ?_ | with_reducible refine Below.alloc ?_ (by first | omega | (simp; done) | (simp; omega)) _)
set_option maxRecDepth 100000 in
set_option maxHeartbeats 4000000 in
theorem rzero_1 {W0 : World} {t : Txv} (hG : TxG W0 t) (w : World) :
    Calls Tryd.prog 57 #[.agg (txC t).toArray, .int .i64 1] w fun e w' => e = .returned (.bool (zeroT t 1)) ∧ Below w.heap.size w w' := by
  have h20 := hG.to.1
  show Calls _ _ _ _ fun e w' => e = .returned (.bool (decide (t.no = 0))) ∧ _
  have g := (txb_one (w := w) h20 32).no
  have he : (t.no == 0) = decide (t.no = 0) := by
    by_cases h : t.no = 0
    · rw [h]; rfl
    · rw [decide_eq_false h]; exact beq_eq_false_iff_ne.2 h
  rw [← he]
  clear hG h20 he
  generalize txC t = M at *
  generalize t.no = x at *
  go_enter Tryd.func57, Tryd.ntmps57
  go_wp2
  simp [bodyPost, results, Tryd.results57, go_sem]
  repeat (first | with_reducible exact Below.refl _ _ | with_reducible refine Below.drew ?_ | with_reducible refine Below.alloc ?_ (by first | omega | (simp; done) | (simp; omega)) _)
set_option maxRecDepth 100000 in
set_option maxHeartbeats 4000000 in
theorem rzero_2 {W0 : World} {t : Txv} (hG : TxG W0 t) (w : World) :
    Calls Tryd.prog 57 #[.agg (txC t).toArray, .int .i64 2] w fun e w' => e = .returned (.bool (zeroT t 2)) ∧ Below w.heap.size w w' := by
  have h20 := hG.to.1
  show Calls _ _ _ _ fun e w' => e = .returned (.bool (decide (t.pr = 0))) ∧ _
  have hx := hG.pr
  have g := (txb_one (w := w) h20 32).pr
  have RN : Hid (∀ w, Calls Tryd.prog 63 #[.agg #[.int .u64 (l0 t.pr), .int .u64 (l1 t.pr), .int .u64 (l2 t.pr), .int .u64 (l3 t.pr)]] w fun e w' => e = .returned (.bool (decide (t.pr = 0))) ∧ Below w.heap.size w w') := fun w => rnone_any hx w
  clear hG h20 hx
  generalize txC t = M at *
  generalize decide (t.pr = 0) = z at *
  generalize l0 t.pr = x0 at *
  generalize l1 t.pr = x1 at *
  generalize l2 t.pr = x2 at *
  generalize l3 t.pr = x3 at *
  go_enter Tryd.func57, Tryd.ntmps57
  go_wp2_with (go_at_call 63; refine (RN.out _).mono ?_; rintro e W5 ⟨rfl, B5⟩)
  simp [bodyPost, results, Tryd.results57, go_sem]
  exact ((Below.refl _ _).alloc (Nat.le_refl _) _).trans (B5.mono (by simp))
set_option maxRecDepth 100000 in
set_option maxHeartbeats 4000000 in
theorem rzero_3 {W0 : World} {t : Txv} (hG : TxG W0 t) (w : World) :
    Calls Tryd.prog 57 #[.agg (txC t).toArray, .int .i64 3] w fun e w' => e = .returned (.bool (zeroT t 3)) ∧ Below w.heap.size w w' := by
  have h20 := hG.to.1
  show Calls _ _ _ _ fun e w' => e = .returned (.bool (decide (t.ti = 0))) ∧ _
  have hx := hG.ti
  have g := (txb_one (w := w) h20 32).ti
  have RN : Hid (∀ w, Calls Tryd.prog 63 #[.agg #[.int .u64 (l0 t.ti), .int .u64 (l1 t.ti), .int .u64 (l2 t.ti), .int .u64 (l3 t.ti)]] w fun e w' => e = .returned (.bool (decide (t.ti = 0))) ∧ Below w.heap.size w w') := fun w => rnone_any hx w
  clear hG h20 hx
  generalize txC t = M at *
  generalize decide (t.ti = 0) = z at *
  generalize l0 t.ti = x0 at *
  generalize l1 t.ti = x1 at *
  generalize l2 t.ti = x2 at *
  generalize l3 t.ti = x3 at *
  go_enter Tryd.func57, Tryd.ntmps57
  go_wp2_with (go_at_call 63; refine (RN.out _).mono ?_; rintro e W5 ⟨rfl, B5⟩)
  simp [bodyPost, results, Tryd.results57, go_sem]
  exact ((Below.refl _ _).alloc (Nat.le_refl _) _).trans (B5.mono (by simp))
set_option maxRecDepth 100000 in
set_option maxHeartbeats 4000000 in
theorem rzero_4 {W0 : World} {t : Txv} (hG : TxG W0 t) (w : World) :
    Calls Tryd.prog 57 #[.agg (txC t).toArray, .int .i64 4] w fun e w' => e = .returned (.bool (zeroT t 4)) ∧ Below w.heap.size w w' := by
  have h20 := hG.to.1
  show Calls _ _ _ _ fun e w' => e = .returned (.bool (decide (t.ca = 0))) ∧ _
  have hx := hG.ca
  have g := (txb_one (w := w) h20 32).ca
  have RN : Hid (∀ w, Calls Tryd.prog 63 #[.agg #[.int .u64 (l0 t.ca), .int .u64 (l1 t.ca), .int .u64 (l2 t.ca), .int .u64 (l3 t.ca)]] w fun e w' => e = .returned (.bool (decide (t.ca = 0))) ∧ Below w.heap.size w w') := fun w => rnone_any hx w
  clear hG h20 hx
  generalize txC t = M at *
  generalize decide (t.ca = 0) = z at *
  generalize l0 t.ca = x0 at *
  generalize l1 t.ca = x1 at *
  generalize l2 t.ca = x2 at *
  generalize l3 t.ca = x3 at *
  go_enter Tryd.func57, Tryd.ntmps57
  go_wp2_with (go_at_call 63; refine (RN.out _).mono ?_; rintro e W5 ⟨rfl, B5⟩)
  simp [bodyPost, results, Tryd.results57, go_sem]
  exact ((Below.refl _ _).alloc (Nat.le_refl _) _).trans (B5.mono (by simp))
set_option maxRecDepth 100000 in
set_option maxHeartbeats 4000000 in
theorem rzero_5 {W0 : World} {t : Txv} (hG : TxG W0 t) (w : World) :
    Calls Tryd.prog 57 #[.agg (txC t).toArray, .int .i64 5] w fun e w' => e = .returned (.bool (zeroT t 5)) ∧ Below w.heap.size w w' := by
  have h20 := hG.to.1
  show Calls _ _ _ _ fun e w' => e = .returned (.bool (decide (t.gas = 0))) ∧ _
  have g := (txb_one (w := w) h20 32).gas
  have he : (t.gas == 0) = decide (t.gas = 0) := by
    by_cases h : t.gas = 0
    · rw [h]; rfl
    · rw [decide_eq_false h]; exact beq_eq_false_iff_ne.2 h
  rw [← he]
  clear hG h20 he
  generalize txC t = M at *
  generalize t.gas = x at *
  go_enter Tryd.func57, Tryd.ntmps57
  go_wp2
  simp [bodyPost, results, Tryd.results57, go_sem]
  repeat (first | with_reducible exact Below.refl _ _ | with_reducible refine Below.drew ?_ | with_reducible refine Below.alloc ?_ (by first | omega | (simp; done) | (simp; omega)) _)
set_option maxRecDepth 100000 in
set_option maxHeartbeats 4000000 in
theorem rzero_6 {W0 : World} {t : Txv} (hG : TxG W0 t) (w : World) :
    Calls Tryd.prog 57 #[.agg (txC t).toArray, .int .i64 6] w fun e w' => e = .returned (.bool (zeroT t 6)) ∧ Below w.heap.size w w' := by
  have h20 := hG.to.1
  show Calls _ _ _ _ fun e w' => e = .returned (.bool ((!t.cr && decide (t.to = List.replicate 20 0)))) ∧ _
  have g := (txb_one (w := w) h20 32).cr
  have rT := (txb_one (w := w) h20 32).toRZ
  have szA : (Tryd.prog.info? 26).map (·.size) = some (hC t.to).length := by rw [hC, List.length_map, h20]; kernel_rfl
  have hzA := build_adr
  have he := eq_toT h20
  generalize decide (t.to = List.replicate 20 0) = tz at *
  generalize hC t.to = ct at *
  clear hG h20
  generalize txC t = M at *
  cases hc : t.cr with
  | true =>
    rw [hc] at g
    clear hc
    go_enter Tryd.func57, Tryd.ntmps57
    go_wp2
    simp [bodyPost, results, Tryd.results57, go_sem]
    repeat (first | with_reducible exact Below.refl _ _ | with_reducible refine Below.drew ?_ | with_reducible refine Below.alloc ?_ (by first | omega | (simp; done) | (simp; omega)) _)
  | false =>
    rw [hc] at g
    clear hc
    go_enter Tryd.func57, Tryd.ntmps57
    go_wp2_with (refine wpList_load_midG (by rfl) 26 _ rfl w.heap.size 17 rfl ct _ rT Tryd.underlying26 rfl szA ?_)
    simp [bodyPost, results, Tryd.results57, go_sem]
    repeat (first | with_reducible exact Below.refl _ _ | with_reducible refine Below.drew ?_ | with_reducible refine Below.alloc ?_ (by first | omega | (simp; done) | (simp; omega)) _)
set_option maxRecDepth 100000 in
set_option maxHeartbeats 4000000 in
theorem rzero_7 {W0 : World} {t : Txv} (hG : TxG W0 t) (w : World) :
    Calls Tryd.prog 57 #[.agg (txC t).toArray, .int .i64 7] w fun e w' => e = .returned (.bool (zeroT t 7)) ∧ Below w.heap.size w w' := by
  have h20 := hG.to.1
  show Calls _ _ _ _ fun e w' => e = .returned (.bool (decide (t.va = 0))) ∧ _
  have hx := hG.va
  have g := (txb_one (w := w) h20 32).va
  have RN : Hid (∀ w, Calls Tryd.prog 63 #[.agg #[.int .u64 (l0 t.va), .int .u64 (l1 t.va), .int .u64 (l2 t.va), .int .u64 (l3 t.va)]] w fun e w' => e = .returned (.bool (decide (t.va = 0))) ∧ Below w.heap.size w w') := fun w => rnone_any hx w
  clear hG h20 hx
  generalize txC t = M at *
  generalize decide (t.va = 0) = z at *
  generalize l0 t.va = x0 at *
  generalize l1 t.va = x1 at *
  generalize l2 t.va = x2 at *
  generalize l3 t.va = x3 at *
  go_enter Tryd.func57, Tryd.ntmps57
  go_wp2_with (go_at_call 63; refine (RN.out _).mono ?_; rintro e W5 ⟨rfl, B5⟩)
  simp [bodyPost, results, Tryd.results57, go_sem]
  exact ((Below.refl _ _).alloc (Nat.le_refl _) _).trans (B5.mono (by simp))
set_option maxRecDepth 100000 in
set_option maxHeartbeats 4000000 in
theorem rzero_8 {W0 : World} {t : Txv} (hG : TxG W0 t) (w : World) :
    Calls Tryd.prog 57 #[.agg (txC t).toArray, .int .i64 8] w fun e w' => e = .returned (.bool (zeroT t 8)) ∧ Below w.heap.size w w' := by
  have h20 := hG.to.1
  show Calls _ _ _ _ fun e w' => e = .returned (.bool (decide (t.Dl.length = 0))) ∧ _
  have g := (txb_one (w := w) h20 32).D
  have he : (((t.Dl.length : Nat) : Int) == 0) = decide (t.Dl.length = 0) := by
    by_cases h : t.Dl.length = 0
    · rw [h]; rfl
    · rw [decide_eq_false h]; exact beq_eq_false_iff_ne.2 (by omega)
  clear hG h20
  generalize txC t = M at *
  generalize t.Dl.length = m at *
  go_enter Tryd.func57, Tryd.ntmps57
  go_wp2
  simp [bodyPost, results, Tryd.results57, go_sem]
  repeat (first | with_reducible exact Below.refl _ _ | with_reducible refine Below.drew ?_ | with_reducible refine Below.alloc ?_ (by first | omega | (simp; done) | (simp; omega)) _)
set_option maxRecDepth 100000 in
set_option maxHeartbeats 4000000 in
theorem rzero_9 {W0 : World} {t : Txv} (hG : TxG W0 t) (w : World) :
    Calls Tryd.prog 57 #[.agg (txC t).toArray, .int .i64 9] w fun e w' => e = .returned (.bool (zeroT t 9)) ∧ Below w.heap.size w w' := by
  have h20 := hG.to.1
  show Calls _ _ _ _ fun e w' => e = .returned (.bool (decide (t.El.length = 0))) ∧ _
  have g := (txb_one (w := w) h20 32).E
  have he : (((t.El.length : Nat) : Int) == 0) = decide (t.El.length = 0) := by
    by_cases h : t.El.length = 0
    · rw [h]; rfl
    · rw [decide_eq_false h]; exact beq_eq_false_iff_ne.2 (by omega)
  clear hG h20
  generalize txC t = M at *
  generalize t.El.length = m at *
  go_enter Tryd.func57, Tryd.ntmps57
  go_wp2
  simp [bodyPost, results, Tryd.results57, go_sem]
  repeat (first | with_reducible exact Below.refl _ _ | with_reducible refine Below.drew ?_ | with_reducible refine Below.alloc ?_ (by first | omega | (simp; done) | (simp; omega)) _)
set_option maxRecDepth 100000 in
set_option maxHeartbeats 4000000 in
theorem rzero_10 {W0 : World} {t : Txv} (hG : TxG W0 t) (w : World) :
    Calls Tryd.prog 57 #[.agg (txC t).toArray, .int .i64 10] w fun e w' => e = .returned (.bool (zeroT t 10)) ∧ Below w.heap.size w w' := by
  have h20 := hG.to.1
  show Calls _ _ _ _ fun e w' => e = .returned (.bool (decide (t.bc = 0))) ∧ _
  have hx := hG.bc
  have g := (txb_one (w := w) h20 32).bc
  have RN : Hid (∀ w, Calls Tryd.prog 63 #[.agg #[.int .u64 (l0 t.bc), .int .u64 (l1 t.bc), .int .u64 (l2 t.bc), .int .u64 (l3 t.bc)]] w fun e w' => e = .returned (.bool (decide (t.bc = 0))) ∧ Below w.heap.size w w') := fun w => rnone_any hx w
  clear hG h20 hx
  generalize txC t = M at *
  generalize decide (t.bc = 0) = z at *
  generalize l0 t.bc = x0 at *
  generalize l1 t.bc = x1 at *
  generalize l2 t.bc = x2 at *
  generalize l3 t.bc = x3 at *
  go_enter Tryd.func57, Tryd.ntmps57
  go_wp2_with (go_at_call 63; refine (RN.out _).mono ?_; rintro e W5 ⟨rfl, B5⟩)
  simp [bodyPost, results, Tryd.results57, go_sem]
  exact ((Below.refl _ _).alloc (Nat.le_refl _) _).trans (B5.mono (by simp))
set_option maxRecDepth 100000 in
set_option maxHeartbeats 4000000 in
theorem rzero_11 {W0 : World} {t : Txv} (hG : TxG W0 t) (w : World) :
    Calls Tryd.prog 57 #[.agg (txC t).toArray, .int .i64 11] w fun e w' => e = .returned (.bool (zeroT t 11)) ∧ Below w.heap.size w w' := by
  have h20 := hG.to.1
  show Calls _ _ _ _ fun e w' => e = .returned (.bool (decide (t.Hsl.length = 0))) ∧ _
  have g := (txb_one (w := w) h20 32).Hs
  have he : (((t.Hsl.length : Nat) : Int) == 0) = decide (t.Hsl.length = 0) := by
    by_cases h : t.Hsl.length = 0
    · rw [h]; rfl
    · rw [decide_eq_false h]; exact beq_eq_false_iff_ne.2 (by omega)
  clear hG h20
  generalize txC t = M at *
  generalize t.Hsl.length = m at *
  go_enter Tryd.func57, Tryd.ntmps57
  go_wp2
  simp [bodyPost, results, Tryd.results57, go_sem]
  repeat (first | with_reducible exact Below.refl _ _ | with_reducible refine Below.drew ?_ | with_reducible refine Below.alloc ?_ (by first | omega | (simp; done) | (simp; omega)) _)
set_option maxRecDepth 100000 in
set_option maxHeartbeats 4000000 in
theorem rzero_12 {W0 : World} {t : Txv} (hG : TxG W0 t) (w : World) :
    Calls Tryd.prog 57 #[.agg (txC t).toArray, .int .i64 12] w fun e w' => e = .returned (.bool (zeroT t 12)) ∧ Below w.heap.size w w' := by
  have h20 := hG.to.1
  show Calls _ _ _ _ fun e w' => e = .returned (.bool (decide (t.Ul.length = 0))) ∧ _
  have g := (txb_one (w := w) h20 32).U
  have he : (((t.Ul.length : Nat) : Int) == 0) = decide (t.Ul.length = 0) := by
    by_cases h : t.Ul.length = 0
    · rw [h]; rfl
    · rw [decide_eq_false h]; exact beq_eq_false_iff_ne.2 (by omega)
  clear hG h20
  generalize txC t = M at *
  generalize t.Ul.length = m at *
  go_enter Tryd.func57, Tryd.ntmps57
  go_wp2
  simp [bodyPost, results, Tryd.results57, go_sem]
  repeat (first | with_reducible exact Below.refl _ _ | with_reducible refine Below.drew ?_ | with_reducible refine Below.alloc ?_ (by first | omega | (simp; done) | (simp; omega)) _)
set_option maxRecDepth 100000 in
set_option maxHeartbeats 4000000 in
theorem rzero_13 {W0 : World} {t : Txv} (hG : TxG W0 t) (w : World) :
    Calls Tryd.prog 57 #[.agg (txC t).toArray, .int .i64 13] w fun e w' => e = .returned (.bool (zeroT t 13)) ∧ Below w.heap.size w w' := by
  have h20 := hG.to.1
  show Calls _ _ _ _ fun e w' => e = .returned (.bool true) ∧ _
  clear hG h20
  generalize txC t = M at *
  go_enter Tryd.func57, Tryd.ntmps57
  go_wp2
  simp [bodyPost, results, Tryd.results57, go_sem]
  repeat (first | with_reducible exact Below.refl _ _ | with_reducible refine Below.drew ?_ | with_reducible refine Below.alloc ?_ (by first | omega | (simp; done) | (simp; omega)) _)
set_option maxRecDepth 100000 in
set_option maxHeartbeats 4000000 in
theorem rzero_14 {W0 : World} {t : Txv} (hG : TxG W0 t) (w : World) :
    Calls Tryd.prog 57 #[.agg (txC t).toArray, .int .i64 14] w fun e w' => e = .returned (.bool (zeroT t 14)) ∧ Below w.heap.size w w' := by
  have h20 := hG.to.1
  show Calls _ _ _ _ fun e w' => e = .returned (.bool true) ∧ _
  clear hG h20
  generalize txC t = M at *
  go_enter Tryd.func57, Tryd.ntmps57
  go_wp2
  simp [bodyPost, results, Tryd.results57, go_sem]
  repeat (first | with_reducible exact Below.refl _ _ | with_reducible refine Below.drew ?_ | with_reducible refine Below.alloc ?_ (by first | omega | (simp; done) | (simp; omega)) _)
set_option maxRecDepth 100000 in
set_option maxHeartbeats 4000000 in
theorem rzero_15 {W0 : World} {t : Txv} (hG : TxG W0 t) (w : World) :
    Calls Tryd.prog 57 #[.agg (txC t).toArray, .int .i64 15] w fun e w' => e = .returned (.bool (zeroT t 15)) ∧ Below w.heap.size w w' := by
  have h20 := hG.to.1
  show Calls _ _ _ _ fun e w' => e = .returned (.bool true) ∧ _
  clear hG h20
  generalize txC t = M at *
  go_enter Tryd.func57, Tryd.ntmps57
  go_wp2
  simp [bodyPost, results, Tryd.results57, go_sem]
  repeat (first | with_reducible exact Below.refl _ _ | with_reducible refine Below.drew ?_ | with_reducible refine Below.alloc ?_ (by first | omega | (simp; done) | (simp; omega)) _)
theorem rzero_any {W0 : World} {t : Txv} {f : Nat} (hf : f < 16) (hG : TxG W0 t) (w : World) :
    Calls Tryd.prog 57 #[.agg (txC t).toArray, .int .i64 (f : Int)] w fun e w' => e = .returned (.bool (zeroT t f)) ∧ Below w.heap.size w w' := by
  match f, hf with
  | 0, _ => exact rzero_0 hG w
  | 1, _ => exact rzero_1 hG w
  | 2, _ => exact rzero_2 hG w
  | 3, _ => exact rzero_3 hG w
  | 4, _ => exact rzero_4 hG w
  | 5, _ => exact rzero_5 hG w
  | 6, _ => exact rzero_6 hG w
  | 7, _ => exact rzero_7 hG w
  | 8, _ => exact rzero_8 hG w
  | 9, _ => exact rzero_9 hG w
  | 10, _ => exact rzero_10 hG w
  | 11, _ => exact rzero_11 hG w
  | 12, _ => exact rzero_12 hG w
  | 13, _ => exact rzero_13 hG w
  | 14, _ => exact rzero_14 hG w
  | 15, _ => exact rzero_15 hG w
  | n + 16, h => exact absurd h (by omega)
def vI (L : List Int) : List Value := L.map (Value.int .i64)
theorem vI_at {L : List Int} {i : Nat} (h : i < L.length) : (vI L)[i]? = some (.int .i64 (L.getD i 0)) := by
  unfold vI; rw [List.getElem?_map, List.getElem?_eq_getElem h, List.getD, List.getElem?_eq_getElem h]; rfl
theorem new_rangeF {W : World} {cs : List Value} {t : TypeId} : (W.alloc (.cells cs.toArray t)).rangeAt W.heap.size 0 cs := fun j v hv => by
  rw [Nat.zero_add, World.cell?_alloc_mark]
  simpa using hv
set_option maxRecDepth 100000 in
set_option maxHeartbeats 4000000 in
theorem rrow_any {k : Nat} (hk : k < 5) (w : World) : Calls Tryd.prog 55 #[.int .i64 (k : Int)] w fun e w' => ∃ g, e = .returned (.slice (some ⟨g, 0, none⟩) (rowsT.getD k []).length (rowsT.getD k []).length) ∧ w'.rangeAt g 0 (vI (rowsT.getD k [])) ∧ Below w.heap.size w w' := by
  match k, hk with
  | 0, _ =>
    show Calls _ _ #[.int .i64 0] _ fun e w' => ∃ g, e = .returned (.slice (some ⟨g, 0, none⟩) 9 9) ∧ w'.rangeAt g 0 [.int .i64 1, .int .i64 2, .int .i64 5, .int .i64 6, .int .i64 7, .int .i64 8, .int .i64 13, .int .i64 14, .int .i64 15] ∧ _
    go_enter Tryd.func55, Tryd.ntmps55
    go_wp2
    simp [bodyPost, results, Tryd.results55, go_sem]
    exact ⟨new_rangeF, (Below.refl _ _).alloc (Nat.le_refl _) _⟩
  | 1, _ =>
    show Calls _ _ #[.int .i64 1] _ fun e w' => ∃ g, e = .returned (.slice (some ⟨g, 0, none⟩) 11 11) ∧ w'.rangeAt g 0 [.int .i64 0, .int .i64 1, .int .i64 2, .int .i64 5, .int .i64 6, .int .i64 7, .int .i64 8, .int .i64 9, .int .i64 13, .int .i64 14, .int .i64 15] ∧ _
    go_enter Tryd.func55, Tryd.ntmps55
    go_wp2
    simp [bodyPost, results, Tryd.results55, go_sem]
    exact ⟨new_rangeF, (Below.refl _ _).alloc (Nat.le_refl _) _⟩
  | 2, _ =>
    show Calls _ _ #[.int .i64 2] _ fun e w' => ∃ g, e = .returned (.slice (some ⟨g, 0, none⟩) 12 12) ∧ w'.rangeAt g 0 [.int .i64 0, .int .i64 1, .int .i64 3, .int .i64 4, .int .i64 5, .int .i64 6, .int .i64 7, .int .i64 8, .int .i64 9, .int .i64 13, .int .i64 14, .int .i64 15] ∧ _
    go_enter Tryd.func55, Tryd.ntmps55
    go_wp2
    simp [bodyPost, results, Tryd.results55, go_sem]
    exact ⟨new_rangeF, (Below.refl _ _).alloc (Nat.le_refl _) _⟩
  | 3, _ =>
    show Calls _ _ #[.int .i64 3] _ fun e w' => ∃ g, e = .returned (.slice (some ⟨g, 0, none⟩) 14 14) ∧ w'.rangeAt g 0 [.int .i64 0, .int .i64 1, .int .i64 3, .int .i64 4, .int .i64 5, .int .i64 6, .int .i64 7, .int .i64 8, .int .i64 9, .int .i64 10, .int .i64 11, .int .i64 13, .int .i64 14, .int .i64 15] ∧ _
    go_enter Tryd.func55, Tryd.ntmps55
    go_wp2
    simp [bodyPost, results, Tryd.results55, go_sem]
    exact ⟨new_rangeF, (Below.refl _ _).alloc (Nat.le_refl _) _⟩
  | 4, _ =>
    show Calls _ _ #[.int .i64 4] _ fun e w' => ∃ g, e = .returned (.slice (some ⟨g, 0, none⟩) 13 13) ∧ w'.rangeAt g 0 [.int .i64 0, .int .i64 1, .int .i64 3, .int .i64 4, .int .i64 5, .int .i64 6, .int .i64 7, .int .i64 8, .int .i64 9, .int .i64 12, .int .i64 13, .int .i64 14, .int .i64 15] ∧ _
    go_enter Tryd.func55, Tryd.ntmps55
    go_wp2
    simp [bodyPost, results, Tryd.results55, go_sem]
    exact ⟨new_rangeF, (Below.refl _ _).alloc (Nat.le_refl _) _⟩
  | n + 5, h => exact absurd h (by omega)
set_option maxRecDepth 100000 in
set_option maxHeartbeats 4000000 in
theorem rstands_any {L : List Int} {f : Int} {g c : Nat} (hl : L.length ≤ 100) (w : World) (h : w.rangeAt g 0 (vI L)) :
    Calls Tryd.prog 56 #[.slice (some ⟨g, 0, none⟩) L.length c, .int .i64 f] w fun e w' => e = .returned (.bool (decide (f ∈ L))) ∧ Below w.heap.size w w' := by
  have HL : Hid (L.length ≤ 100 ∧ ∀ i, i < L.length → w.cell? ⟨g, i, none⟩ = some (.int .i64 (L.getD i 0))) := ⟨hl, fun i hi => by have := h i _ (vI_at hi); rwa [Nat.zero_add] at this⟩
  clear h hl
  go_enter Tryd.func56, Tryd.ntmps56
  go_wp2_with fail
  go_loopg [5] L.length (fun q i wr => ∃ j : Nat, q = L.length - j ∧ j ≤ L.length ∧ i = .int .i64 (j : Int) ∧ wr = w ∧ ∀ a, a < j → L.getD a 0 ≠ f)
  case atStart => exact ⟨0, rfl, Nat.zero_le _, rfl, rfl, fun a ha => absurd ha (Nat.not_lt_zero _)⟩
  case round =>
    obtain ⟨j, hq, hj, rfl, rfl, hno⟩ := hrel
    have HN : Hid (gk = L.length - j ∧ ∀ a, a < j → L.getD a 0 ≠ f) := ⟨hq, hno⟩
    clear hno hq
    by_cases e : j = L.length
    · have dn : decide (f ∈ L) = false := decide_eq_false fun hm => by
        obtain ⟨a, ha, hb⟩ := List.getElem_of_mem hm
        refine HN.out.2 a (by omega) ?_
        simp [List.getD, ha, hb]
      subst e
      go_wp2
      simp [bodyPost, results, Tryd.results56, go_sem, dn]
      repeat (first | with_reducible exact Below.refl _ _ | with_reducible refine Below.drew ?_)
    · have hlt : j < L.length := by omega
      have hlt' : (j : Int) < (L.length : Int) := by omega
      have gj := HL.out.2 j hlt
      have l1 := HL.out.1
      by_cases e2 : L.getD j 0 = f
      · have dn : decide (f ∈ L) = true := decide_eq_true (by rw [← e2]; simp [List.getD, hlt])
        rw [e2] at gj
        go_wp2
        simp [bodyPost, results, Tryd.results56, go_sem, dn]
        repeat (first | with_reducible exact Below.refl _ _ | with_reducible refine Below.drew ?_)
      · generalize hx : L.getD j 0 = x at gj e2
        have HX : Hid (L.getD j 0 = x) := hx
        clear hx
        go_wp2
        go_roundg (L.length - (j + 1))
        case measure => have := HN.out.1; omega
        case rel =>
          refine ⟨j + 1, rfl, hlt, by go_num, rfl, fun a ha => ?_⟩
          by_cases k : a = j
          · rw [k, HX.out]; exact e2
          · exact HN.out.2 a (by omega)
end Go.Proofs.YtllfmlgnemkklaaDoor

import Derived.Test.YtncpjgpioajbeaaGreatDoorNsA
import Derived.Laws.EntriesVeiled
/- Signing: Sign of the program. -/
namespace Go.Proofs.YtncpjgpioajbeaaGreatDoor
open Go.RowKit Go.Sort

set_option maxRecDepth 100000 in
set_option maxHeartbeats 8000000 in
theorem sound_any {R : Nat → SwR} {bk bd : Nat} {x : SwR} (hx : okZ2 R = x) (w : World)
    (CL : Hid (∀ (i : Nat) (W : World), Below w.heap.size w W → Calls Tryz.prog 15 #[.int .i64 (i : Int), .pointer (some ⟨bk, 0, none⟩), .pointer (some ⟨bd, 0, none⟩)] W fun e w' => e = .returned (.tuple #[.agg #[.int .u64 (l0 (R i).r), .int .u64 (l1 (R i).r), .int .u64 (l2 (R i).r), .int .u64 (l3 (R i).r), .int .u64 (l0 (R i).s), .int .u64 (l1 (R i).s), .int .u64 (l2 (R i).s), .int .u64 (l3 (R i).s), .bool (R i).o], .int .i64 (R i).e]) ∧ Below W.heap.size W w')) :
    Calls Tryz.prog 14 #[.func (.func 15) #[] #[.pointer (some ⟨bk, 0, none⟩), .pointer (some ⟨bd, 0, none⟩)]] w fun e w' => e = .returned (.tuple #[.agg #[.int .u64 (l0 x.r), .int .u64 (l1 x.r), .int .u64 (l2 x.r), .int .u64 (l3 x.r), .int .u64 (l0 x.s), .int .u64 (l1 x.s), .int .u64 (l2 x.s), .int .u64 (l3 x.s), .bool x.o], .int .i64 x.e]) ∧ Below w.heap.size w w' := by
  have HX : Hid (okZ2 R = x) := hx
  have o3 : w.heap.size ≤ w.heap.size := Nat.le_refl _
  clear hx
  obtain ⟨z0, z1, z2, z3⟩ := zero_limbs
  go_enter Tryz.func14, Tryz.ntmps14
  go_wp2_with fail
  refine wp_world (fun W => Below w.heap.size w W ∧ Bk9 W w.heap.size) ⟨(Below.refl _ _).alloc (Nat.le_refl _) _, Bk9.new rfl⟩ ?_
  rintro W0 HW
  go_loopg [7] 64 (fun k iv wr => ∃ i : Nat, k = 64 - i ∧ i ≤ 64 ∧ iv = .int .i64 (i : Int) ∧ fsZ R i = none ∧ Below w.heap.size w wr ∧ Bk9 wr w.heap.size)
  case atStart => exact ⟨0, rfl, Nat.zero_le _, rfl, rfl, HW.1, HW.2⟩
  case round =>
    clear HW
    obtain ⟨i, hk, hi, rfl, hp, hB, hR⟩ := hrel
    have HK : Hid (gk = 64 - i) := hk
    have HP : Hid (fsZ R i = none ∧ Below w.heap.size w wr ∧ Bk9 wr w.heap.size) := ⟨hp, hB, hR⟩
    clear hk hp hB hR
    by_cases h8 : i = 64
    · subst h8
      have gR := HP.out.2.2.cells
      have fR := HP.out.2.2.free
      have ex : x = ⟨0, 0, false, 65⟩ := by rw [← HX.out]; exact okZ2_none HP.out.1
      subst ex
      have B4 := HP.out.2.1
      go_wp2
      simp [bodyPost, results, Tryz.results14, go_sem, gR]
      repeat (first | with_reducible exact B4 | with_reducible refine Below.setCell ?_ o3 _)
    · have hi' : (i : Int) < 64 := by omega
      have C1 := CL.out i
      have H1 : Hid (∀ y, y = R i → y.e = 0 → okZ2 R = y) := fun y e h => by rw [e] at h ⊢; exact okZ2_some (fsZ_here HP.out.1 h) (by omega)
      have H2 : Hid ((R i).e ≠ 0 → fsZ R (i + 1) = none) := fun h => fsZ_not HP.out.1 h
      obtain ⟨y, ey⟩ : ∃ y, y = R i := ⟨_, rfl⟩
      rw [← ey] at C1 H2
      replace H1 : Hid (y.e = 0 → okZ2 R = y) := H1.out y ey
      clear ey
      go_wp2_with fail
      refine (C1 wr HP.out.2.1).mono ?_
      rintro e w2 ⟨rfl, hb⟩
      have B := HP.out.2.1.trans (hb.mono HP.out.2.1.size)
      have hR := HP.out.2.2.keep hb
      clear hb C1
      have lr := hR.lt
      by_cases he : y.e = 0
      · have ex : x = y := by rw [← HX.out]; exact H1.out he
        subst ex
        have gR := fun o => (hR.alloc o).cells
        have fR := fun o => (hR.alloc o).free
        have gR1 := hR.cells
        have fR1 := hR.free
        have nr : w2.heap.size ≠ w.heap.size := by omega
        have nr' := nr.symm
        clear hR HP H1 H2 HX
        go_wp2
        simp [bodyPost, results, Tryz.results14, go_sem, *]
        repeat (first | with_reducible exact B | with_reducible refine Below.alloc ?_ (by first | exact B.size | (simp; exact B.size)) _ | with_reducible refine Below.setCell ?_ o3 _)
      · have H3 : Hid (fsZ R (i + 1) = none) := H2.out he
        have he1 : (y.e == 0) = false := by simpa using he
        have HF : Hid (Below w.heap.size w w2 ∧ Bk9 w2 w.heap.size) := ⟨B, hR⟩
        clear B hR H1 H2
        generalize y.e = f at *
        go_wp2
        go_roundg (64 - (i + 1))
        case measure => have := HK.out; omega
        case rel => exact ⟨i + 1, rfl, by omega, by go_num, H3.out, HF.out.1.alloc HF.out.1.size _, HF.out.2.alloc _⟩

/-- What holds in Sign behind its boxes. -/
structure SnZ (w W : World) (key : Int) (M : List Value) : Prop where
  below : Below w.heap.size w W
  mds : Mds W
  tab : ShT W
  col : Cols W
  key : Hold W w.heap.size key
  dig : W.rangeAt (w.heap.size + 1) 0 M
  res : Bk9 W (w.heap.size + 1 + 1)
theorem SnZ.keep {w W W' : World} {key : Int} {M : List Value} (h : SnZ w W key M) (B : Below W.heap.size W W') : SnZ w W' key M := ⟨h.below.trans (B.mono h.below.size), h.mds.keep B, h.tab.keep B, h.col.keep B, h.key.keep B, rangeZ h.dig B, h.res.keep B⟩
theorem snZ_new {w : World} {key : Int} {M : List Value} {t1 t2 t3 : TypeId} (hm : Mds w) (ht : ShT w) (hc : Cols w) : SnZ w (((w.alloc (.cells #[.int .u64 (l0 key), .int .u64 (l1 key), .int .u64 (l2 key), .int .u64 (l3 key)] t1)).alloc (.cells M.toArray t2)).alloc (.cells #[.int .u64 0, .int .u64 0, .int .u64 0, .int .u64 0, .int .u64 0, .int .u64 0, .int .u64 0, .int .u64 0, .bool false] t3)) key M := by
  have BA : ∀ (V : World) o, Below V.heap.size V (V.alloc o) := fun V o => (Below.refl _ _).alloc (Nat.le_refl _) o
  refine ⟨?_, ((hm.alloc _).alloc _).alloc _, ((ht.keep (BA _ _)).keep (BA _ _)).keep (BA _ _), ((hc.keep (BA _ _)).keep (BA _ _)).keep (BA _ _), ((Hold.new _ _ _).keep (BA _ _)).keep (BA _ _), ?_, Bk9.new (by simp)⟩
  · exact (((Below.refl _ _).alloc (Nat.le_refl _) _).alloc (by simp) _).alloc (by simp; omega) _
  · have := range_newZ (W := w.alloc (.cells #[.int .u64 (l0 key), .int .u64 (l1 key), .int .u64 (l2 key), .int .u64 (l3 key)] t1)) (cs := M) (t := t2)
    rw [show (w.alloc (.cells #[.int .u64 (l0 key), .int .u64 (l1 key), .int .u64 (l2 key), .int .u64 (l3 key)] t1)).heap.size = w.heap.size + 1 by simp] at this
    exact rangeZ this (BA _ _)

set_option maxRecDepth 100000 in
set_option maxHeartbeats 8000000 in
theorem sign_key {key : Int} {M : List Value} (hl : M.length = 32) (IN : Hid (∀ w, Mds w → Calls Tryz.prog 13 #[.agg #[.int .u64 (l0 key), .int .u64 (l1 key), .int .u64 (l2 key), .int .u64 (l3 key)]] w fun e w' => e = .returned (.bool false) ∧ Below w.heap.size w w')) (w : World) (hm : Mds w) (ht : ShT w) (hc : Cols w) :
    Calls Tryz.prog 5 #[.agg #[.int .u64 (l0 key), .int .u64 (l1 key), .int .u64 (l2 key), .int .u64 (l3 key)], .agg M.toArray] w fun e w' => e = .returned (.tuple #[.agg #[.int .u64 (l0 0), .int .u64 (l1 0), .int .u64 (l2 0), .int .u64 (l3 0), .int .u64 (l0 0), .int .u64 (l1 0), .int .u64 (l2 0), .int .u64 (l3 0), .bool false], .int .i64 60]) ∧ Below w.heap.size w w' := by
  have HL : Hid (M.length = 32) := hl
  clear hl
  obtain ⟨z0, z1, z2, z3⟩ := zero_limbs
  go_enter Tryz.func5, Tryz.ntmps5
  go_wp2_with fail
  refine calls_world (fun W => SnZ w W key M) (snZ_new hm ht hc) ?_
  clear hm ht hc
  rintro W HW
  with_reducible refine (IN.out _ HW.mds).mono ?_
  rintro e w2 ⟨rfl, hb⟩
  have H2 := HW.keep hb
  clear hb HW
  have gR := H2.res.cells
  have fR := H2.res.free
  have B9 := H2.below
  have o3 : w.heap.size ≤ w.heap.size + 1 + 1 := by omega
  clear H2
  generalize w.heap.size + 1 + 1 = br at *
  go_wp2
  simp [bodyPost, results, Tryz.results5, go_sem, *]
  repeat (first | with_reducible exact B9 | with_reducible refine Below.setCell ?_ o3 _)

set_option maxRecDepth 100000 in
set_option maxHeartbeats 8000000 in
theorem sign_ok {R : Nat → SwR} {x : SwR} {key : Int} {M : List Value} (hl : M.length = 32) (hx : okZ2 R = x) (IN : Hid (∀ w, Mds w → Calls Tryz.prog 13 #[.agg #[.int .u64 (l0 key), .int .u64 (l1 key), .int .u64 (l2 key), .int .u64 (l3 key)]] w fun e w' => e = .returned (.bool true) ∧ Below w.heap.size w w'))
    (CL : Hid (∀ (i bk bd : Nat) (W : World), Mds W → ShT W → Cols W → Hold W bk key → W.rangeAt bd 0 M → Calls Tryz.prog 15 #[.int .i64 (i : Int), .pointer (some ⟨bk, 0, none⟩), .pointer (some ⟨bd, 0, none⟩)] W fun e w' => e = .returned (.tuple #[.agg #[.int .u64 (l0 (R i).r), .int .u64 (l1 (R i).r), .int .u64 (l2 (R i).r), .int .u64 (l3 (R i).r), .int .u64 (l0 (R i).s), .int .u64 (l1 (R i).s), .int .u64 (l2 (R i).s), .int .u64 (l3 (R i).s), .bool (R i).o], .int .i64 (R i).e]) ∧ Below W.heap.size W w'))
    (w : World) (hm : Mds w) (ht : ShT w) (hc : Cols w) :
    Calls Tryz.prog 5 #[.agg #[.int .u64 (l0 key), .int .u64 (l1 key), .int .u64 (l2 key), .int .u64 (l3 key)], .agg M.toArray] w fun e w' => e = .returned (.tuple #[.agg #[.int .u64 (l0 x.r), .int .u64 (l1 x.r), .int .u64 (l2 x.r), .int .u64 (l3 x.r), .int .u64 (l0 x.s), .int .u64 (l1 x.s), .int .u64 (l2 x.s), .int .u64 (l3 x.s), .bool x.o], .int .i64 x.e]) ∧ Below w.heap.size w w' := by
  have HL : Hid (M.length = 32 ∧ okZ2 R = x) := ⟨hl, hx⟩
  clear hl hx
  go_enter Tryz.func5, Tryz.ntmps5
  go_wp2_with fail
  refine calls_world (fun W => SnZ w W key M) (snZ_new hm ht hc) ?_
  clear hm ht hc
  rintro W HW
  with_reducible refine (IN.out _ HW.mds).mono ?_
  rintro e w2 ⟨rfl, hb⟩
  have H2 := HW.keep hb
  clear hb HW IN
  clear W
  go_wp2_with fail
  refine (sound_any HL.out.2 w2 (fun i W b => CL.out i _ _ W (H2.mds.keep b) (H2.tab.keep b) (H2.col.keep b) (H2.key.keep b) (rangeZ H2.dig b))).mono ?_
  rintro e w3 ⟨rfl, hb⟩
  have H3 := H2.keep hb
  have gR := H3.res.cells
  have fR := H3.res.free
  have B9 := H3.below
  have o3 : w.heap.size ≤ w.heap.size + 1 + 1 := by omega
  clear H3 H2 hb CL
  clear w2
  generalize w.heap.size + 1 + 1 = br at *
  go_wp2
  simp [bodyPost, results, Tryz.results5, go_sem, gR]
  repeat (first | with_reducible exact B9 | with_reducible refine Below.setCell ?_ o3 _)
end Go.Proofs.YtncpjgpioajbeaaGreatDoor

import Derived.Test.YtncpjgpioajbeaaGreatDoorNsB
/- Signing: Sign of the document. -/
namespace Go.Proofs.YtncpjgpioajbeaaGreatDoor
open Go.RowKit Go.Sort

/-- What holds in the document's Sign behind its boxes. -/
structure SrZ (w W : World) (key : Int) (M : List Value) : Prop where
  below : Below w.heap.size w W
  key : Hold W w.heap.size key
  dig : W.rangeAt (w.heap.size + 1) 0 M
  res : Bk9 W (w.heap.size + 1 + 1)
theorem SrZ.keep {w W W' : World} {key : Int} {M : List Value} (h : SrZ w W key M) (B : Below W.heap.size W W') : SrZ w W' key M := ⟨h.below.trans (B.mono h.below.size), h.key.keep B, rangeZ h.dig B, h.res.keep B⟩
theorem srZ_new {w : World} {key : Int} {M : List Value} {t1 t2 t3 : TypeId} : SrZ w (((w.alloc (.cells #[.int .u64 (l0 key), .int .u64 (l1 key), .int .u64 (l2 key), .int .u64 (l3 key)] t1)).alloc (.cells M.toArray t2)).alloc (.cells #[.int .u64 0, .int .u64 0, .int .u64 0, .int .u64 0, .int .u64 0, .int .u64 0, .int .u64 0, .int .u64 0, .bool false] t3)) key M := by
  have BA : ∀ (V : World) o, Below V.heap.size V (V.alloc o) := fun V o => (Below.refl _ _).alloc (Nat.le_refl _) o
  refine ⟨?_, ((Hold.new _ _ _).keep (BA _ _)).keep (BA _ _), ?_, Bk9.new (by simp)⟩
  · exact (((Below.refl _ _).alloc (Nat.le_refl _) _).alloc (by simp) _).alloc (by simp; omega) _
  · have := range_newZ (W := w.alloc (.cells #[.int .u64 (l0 key), .int .u64 (l1 key), .int .u64 (l2 key), .int .u64 (l3 key)] t1)) (cs := M) (t := t2)
    rw [show (w.alloc (.cells #[.int .u64 (l0 key), .int .u64 (l1 key), .int .u64 (l2 key), .int .u64 (l3 key)] t1)).heap.size = w.heap.size + 1 by simp] at this
    exact rangeZ this (BA _ _)

set_option maxRecDepth 100000 in
set_option maxHeartbeats 8000000 in
theorem rsign_key {key : Int} {M : List Value} (hl : M.length = 32) (IN : Hid (∀ w, Calls Tryz.prog 31 #[.agg #[.int .u64 (l0 key), .int .u64 (l1 key), .int .u64 (l2 key), .int .u64 (l3 key)]] w fun e w' => e = .returned (.bool false) ∧ Below w.heap.size w w')) (w : World) :
    Calls Tryz.prog 11 #[.agg #[.int .u64 (l0 key), .int .u64 (l1 key), .int .u64 (l2 key), .int .u64 (l3 key)], .agg M.toArray] w fun e w' => e = .returned (.tuple #[.agg #[.int .u64 (l0 0), .int .u64 (l1 0), .int .u64 (l2 0), .int .u64 (l3 0), .int .u64 (l0 0), .int .u64 (l1 0), .int .u64 (l2 0), .int .u64 (l3 0), .bool false], .int .i64 60]) ∧ Below w.heap.size w w' := by
  have HL : Hid (M.length = 32) := hl
  clear hl
  obtain ⟨z0, z1, z2, z3⟩ := zero_limbs
  go_enter Tryz.func11, Tryz.ntmps11
  go_wp2_with fail
  refine calls_world (fun W => SrZ w W key M) srZ_new ?_
  rintro W HW
  with_reducible refine (IN.out _).mono ?_
  rintro e w2 ⟨rfl, hb⟩
  have H2 := HW.keep hb
  clear hb HW
  have gR := H2.res.cells
  have fR := H2.res.free
  have B9 := H2.below
  have o3 : w.heap.size ≤ w.heap.size + 1 + 1 := by omega
  clear H2
  generalize w.heap.size + 1 + 1 = br at *
  go_wp2
  simp [bodyPost, results, Tryz.results11, go_sem, *]
  repeat (first | with_reducible exact B9 | with_reducible refine Below.setCell ?_ o3 _)

set_option maxRecDepth 100000 in
set_option maxHeartbeats 8000000 in
theorem rsign_ok {R : Nat → SwR} {nv nf : Nat → Int} {x : SwR} {key : Int} {M : List Value} (hl : M.length = 32) (hx : okZ2 R = x) (IN : Hid (∀ w, Calls Tryz.prog 31 #[.agg #[.int .u64 (l0 key), .int .u64 (l1 key), .int .u64 (l2 key), .int .u64 (l3 key)]] w fun e w' => e = .returned (.bool true) ∧ Below w.heap.size w w'))
    (RN : Hid (∀ (i : Nat) W, Calls Tryz.prog 32 #[.agg #[.int .u64 (l0 key), .int .u64 (l1 key), .int .u64 (l2 key), .int .u64 (l3 key)], .agg M.toArray, .int .i64 (i : Int)] W fun e w' => e = .returned (.tuple #[.agg #[.int .u64 (l0 (nv i)), .int .u64 (l1 (nv i)), .int .u64 (l2 (nv i)), .int .u64 (l3 (nv i))], .int .i64 (nf i)]) ∧ Below W.heap.size W w'))
    (RS : Hid (∀ (i : Nat), nf i = 0 → ∀ W, Calls Tryz.prog 33 #[.agg #[.int .u64 (l0 key), .int .u64 (l1 key), .int .u64 (l2 key), .int .u64 (l3 key)], .agg #[.int .u64 (l0 (nv i)), .int .u64 (l1 (nv i)), .int .u64 (l2 (nv i)), .int .u64 (l3 (nv i))], .agg M.toArray] W fun e w' => e = .returned (.tuple #[.agg #[.int .u64 (l0 (R i).r), .int .u64 (l1 (R i).r), .int .u64 (l2 (R i).r), .int .u64 (l3 (R i).r), .int .u64 (l0 (R i).s), .int .u64 (l1 (R i).s), .int .u64 (l2 (R i).s), .int .u64 (l3 (R i).s), .bool (R i).o], .int .i64 (R i).e]) ∧ Below W.heap.size W w'))
    (RE : Hid (∀ i : Nat, nf i ≠ 0 → (R i).e ≠ 0)) (w : World) :
    Calls Tryz.prog 11 #[.agg #[.int .u64 (l0 key), .int .u64 (l1 key), .int .u64 (l2 key), .int .u64 (l3 key)], .agg M.toArray] w fun e w' => e = .returned (.tuple #[.agg #[.int .u64 (l0 x.r), .int .u64 (l1 x.r), .int .u64 (l2 x.r), .int .u64 (l3 x.r), .int .u64 (l0 x.s), .int .u64 (l1 x.s), .int .u64 (l2 x.s), .int .u64 (l3 x.s), .bool x.o], .int .i64 x.e]) ∧ Below w.heap.size w w' := by
  have il : (Tryz.prog.info? 26).map (·.size) = some M.length := by rw [hl]; kernel_rfl
  have HX : Hid (okZ2 R = x) := hx
  have BA : Hid (∀ (V : World) o, Below V.heap.size V (V.alloc o)) := fun V o => (Below.refl _ _).alloc (Nat.le_refl _) o
  obtain ⟨z0, z1, z2, z3⟩ := zero_limbs
  have o3 : w.heap.size ≤ w.heap.size + 1 + 1 := by omega
  clear hl hx
  go_enter Tryz.func11, Tryz.ntmps11
  go_wp2_with fail
  refine calls_world (fun W => SrZ w W key M) srZ_new ?_
  rintro W HW
  with_reducible refine (IN.out _).mono ?_
  rintro e w2 ⟨rfl, hb⟩
  have H2 := HW.keep hb
  clear hb HW IN
  clear W
  go_wp2_with fail
  go_loopg [7] 64 (fun k iv wr => ∃ i : Nat, k = 64 - i ∧ i ≤ 64 ∧ iv = .int .i64 (i : Int) ∧ fsZ R i = none ∧ SrZ w wr key M)
  case atStart => exact ⟨0, rfl, Nat.zero_le _, rfl, rfl, H2⟩
  case round =>
    clear H2
    obtain ⟨i, hk, hi, rfl, hp, hS⟩ := hrel
    have HK : Hid (gk = 64 - i) := hk
    have HP : Hid (fsZ R i = none ∧ SrZ w wr key M) := ⟨hp, hS⟩
    clear hk hp hS
    by_cases h8 : i = 64
    · subst h8
      have gR := HP.out.2.res.cells
      have fR := HP.out.2.res.free
      have ex : x = ⟨0, 0, false, 65⟩ := by rw [← HX.out]; exact okZ2_none HP.out.1
      subst ex
      have B4 := HP.out.2.below
      clear il
      generalize w.heap.size + 1 + 1 = br at *
      go_wp2
      simp [bodyPost, results, Tryz.results11, go_sem, gR]
      repeat (first | with_reducible exact B4 | with_reducible refine Below.setCell ?_ o3 _)
    · have hi' : (i : Int) ≤ 63 := by omega
      have C1 := RN.out i
      have C2 := RS.out i
      have H1 : Hid (∀ y, y = R i → y.e = 0 → okZ2 R = y) := fun y e h => by rw [e] at h ⊢; exact okZ2_some (fsZ_here HP.out.1 h) (by omega)
      have H2 : Hid ((R i).e ≠ 0 → fsZ R (i + 1) = none) := fun h => fsZ_not HP.out.1 h
      have H4 : Hid (nf i ≠ 0 → (R i).e ≠ 0) := RE.out i
      obtain ⟨y, ey⟩ : ∃ y, y = R i := ⟨_, rfl⟩
      rw [← ey] at C2 H2 H4
      replace H1 : Hid (y.e = 0 → okZ2 R = y) := H1.out y ey
      clear ey
      obtain ⟨v, ev⟩ : ∃ v, v = nv i := ⟨_, rfl⟩
      obtain ⟨f, ef⟩ : ∃ f, f = nf i := ⟨_, rfl⟩
      rw [← ev, ← ef] at C1 C2
      rw [← ef] at H4
      clear ev ef
      have gk1 := HP.out.2.key.cells
      have rg := HP.out.2.dig
      go_wp2_with (refine wpList_load_mid rfl 26 _ rfl (w.heap.size + 1) 0 rfl M _ rg Tryz.underlying26 rfl il ?_)
      refine (C1 wr).mono ?_
      rintro e w3 ⟨rfl, hb⟩
      have S3 := HP.out.2.keep hb
      clear hb C1 gk1 rg
      by_cases hf : f = 0
      · subst hf
        have C3 : Hid (∀ W, Calls Tryz.prog 33 #[.agg #[.int .u64 (l0 key), .int .u64 (l1 key), .int .u64 (l2 key), .int .u64 (l3 key)], .agg #[.int .u64 (l0 v), .int .u64 (l1 v), .int .u64 (l2 v), .int .u64 (l3 v)], .agg M.toArray] W fun e w' => e = .returned (.tuple #[.agg #[.int .u64 (l0 y.r), .int .u64 (l1 y.r), .int .u64 (l2 y.r), .int .u64 (l3 y.r), .int .u64 (l0 y.s), .int .u64 (l1 y.s), .int .u64 (l2 y.s), .int .u64 (l3 y.s), .bool y.o], .int .i64 y.e]) ∧ Below W.heap.size W w') := C2 rfl
        have gk1 := fun o => (S3.keep (BA.out _ o)).key.cells
        have gk0 := S3.key.cells
        have rg := fun o => (S3.keep (BA.out _ o)).dig
        have nbk : w.heap.size ≠ w3.heap.size := by have := World.block_lt_of_cell? w3 _ S3.key.1; simp only at this; omega
        have HS : Hid (SrZ w w3 key M) := S3
        clear S3 C2 H4
        go_wp2_with (refine wpList_load_mid rfl 26 _ rfl (w.heap.size + 1) 0 rfl M _ (rg _) Tryz.underlying26 rfl il ?_)
        refine calls_world (fun W => Below w3.heap.size w3 W) (BA.out _ _) ?_
        rintro W5 B5
        have S5 := HS.out.keep B5
        refine (C3.out W5).mono ?_
        rintro e w6 ⟨rfl, hb⟩
        have S6 := S5.keep hb
        clear hb S5 B5 C3 gk1 gk0 rg nbk HS
        clear W5
        have lr := S6.res.lt
        by_cases he : y.e = 0
        · have ex : x = y := by rw [← HX.out]; exact H1.out he
          subst ex
          have gR := fun o => (S6.res.alloc o).cells
          have fR := fun o => (S6.res.alloc o).free
          have gR1 := S6.res.cells
          have fR1 := S6.res.free
          have B := S6.below
          have nr : w6.heap.size ≠ w.heap.size + 1 + 1 := by omega
          have nr' := nr.symm
          clear S6 HP H1 H2 HX il BA RN RS RE
          generalize w.heap.size + 1 + 1 = br at *
          go_wp2
          simp [bodyPost, results, Tryz.results11, go_sem, *]
          repeat (first | with_reducible exact B | with_reducible refine Below.alloc ?_ (by first | exact B.size | (simp; exact B.size)) _ | with_reducible refine Below.setCell ?_ o3 _)
        · have H3 : Hid (fsZ R (i + 1) = none) := H2.out he
          have he1 : (y.e == 0) = false := by simpa using he
          have HF : Hid (SrZ w w6 key M) := S6
          clear S6 H1 H2
          generalize y.e = f at *
          go_wp2
          go_roundg (64 - (i + 1))
          case measure => have := HK.out; omega
          case rel => exact ⟨i + 1, rfl, by omega, by go_num, H3.out, HF.out.keep (BA.out _ _)⟩
      · have H3 : Hid (fsZ R (i + 1) = none) := H2.out (H4.out hf)
        have he1 : (f == 0) = false := by simpa using hf
        have HF : Hid (SrZ w w3 key M) := S3
        clear S3 H1 H2 C2 H4
        go_wp2
        go_roundg (64 - (i + 1))
        case measure => have := HK.out; omega
        case rel => exact ⟨i + 1, rfl, by omega, by go_num, H3.out, HF.out.keep (BA.out _ _)⟩
end Go.Proofs.YtncpjgpioajbeaaGreatDoor

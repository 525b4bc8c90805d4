import Derived.Test.YtncpjgpioajbeaaGreatDoorNzD
import Derived.Test.YtncpjgpioajbeaaGreatDoorSPad
import Derived.Test.YtncpjgpioajbeaaGreatDoorTail
import Derived.Laws.OwnMore
import Derived.Test.YtncpjgpioajbeaaGreatDoorSComp
import Derived.Deep.AppendLies
import Derived.Test.YtncpjgpioajbeaaGreatDoorQTail
import Derived.Test.YtncpjgpioajbeaaGreatDoorSBase
import Derived.Test.YtncpjgpioajbeaaGreatDoorSTx
import Derived.Test.YtncpjgpioajbeaaGreatDoorRows
import Derived.WalkKit
import Derived.Test.YtncpjgpioajbeaaGreatDoorSRSumsLaw
import Derived.Test.YtncpjgpioajbeaaGreatDoorENum
import Derived.Test.YtncpjgpioajbeaaGreatDoorFReduce
import Derived.Test.YtncpjgpioajbeaaGreatDoorHold
import Derived.Deep.LoopGhost
import Derived.Deep.RegionHeld3
import Derived.Test.YtncpjgpioajbeaaGreatDoorRefNum
import Derived.Test.YtncpjgpioajbeaaGreatDoorAdd
import Derived.Test.YtncpjgpioajbeaaGreatDoorFExp
import Derived.Test.YtncpjgpioajbeaaGreatDoorLen
import Derived.Test.YtncpjgpioajbeaaGreatDoorFBin
import Derived.Test.YtncpjgpioajbeaaGreatDoorFAppK
import Derived.Maps.AppendAt
import Derived.Test.YtncpjgpioajbeaaGreatDoorESW
import Derived.Laws.EntriesVeiled
/- EcdsaNonces. -/
namespace Go.Proofs.YtncpjgpioajbeaaGreatDoor
open Go.RowKit Go.Sort

/-- What Nonce answers, of any key, digest and number. -/
noncomputable def nonV (key : Int) (A : List Int) (wh : Int) : Int := if wh < 0 ∨ 64 ≤ wh then 0 else if fitN key then nzV (cndZ (stZ key (modN nN (sufN A 32)))) wh.toNat else 0
noncomputable def nonE (key : Int) (A : List Int) (wh : Int) : Int := if wh < 0 ∨ 64 ≤ wh then 1 else if fitN key then nzE (cndZ (stZ key (modN nN (sufN A 32)))) wh.toNat else 60
theorem nonce_any {key wh : Int} {A : List Int} (hk : Num key) (hA : Byts A) (hl : A.length = 32) (w : World) (hm : Mds w) (ht : ShT w) :
    Calls Tryz.prog 7 #[.agg #[.int .u64 (l0 key), .int .u64 (l1 key), .int .u64 (l2 key), .int .u64 (l3 key)], hashV A, .int .i64 wh] w fun e w' => e = .returned (.tuple #[.agg #[.int .u64 (l0 (nonV key A wh)), .int .u64 (l1 (nonV key A wh)), .int .u64 (l2 (nonV key A wh)), .int .u64 (l3 (nonV key A wh))], .int .i64 (nonE key A wh)]) ∧ Below w.heap.size w w' := by
  unfold nonV nonE
  by_cases hb : wh < 0 ∨ 64 ≤ wh
  · rw [if_pos hb, if_pos hb]
    exact nonce_arg hl hb w
  · rw [if_neg hb, if_neg hb]
    obtain ⟨n, rfl⟩ := Int.eq_ofNat_of_zero_le (show 0 ≤ wh by omega)
    have hn : n < 64 := by omega
    have IN := einside_any hk
    cases hf : fitN key with
    | false =>
      rw [hf] at IN
      exact nonce_key hl hn IN w hm ht
    | true =>
      rw [hf] at IN
      rw [if_pos rfl, if_pos rfl, show ((n : Int)).toNat = n from rfl]
      exact nonce_ok hl hn rfl IN (fun w hm => enumber_any hA hl w hm) rfl rfl w hm ht
theorem nzV_num {s : KvZ} {n : Nat} : Num (nzV (cndZ s) n) := by
  unfold nzV
  cases h : pkZ (cndZ s) n 256 with
  | none => exact ⟨by decide, by decide⟩
  | some x => exact pkZ_num (cndZ_num s) h
theorem nonV_num (key : Int) (A : List Int) (wh : Int) : Num (nonV key A wh) := by
  unfold nonV
  split
  · exact ⟨by decide, by decide⟩
  · split
    · exact nzV_num
    · exact ⟨by decide, by decide⟩

end Go.Proofs.YtncpjgpioajbeaaGreatDoor

/- Signing: what each nonce gives. -/
namespace Go.Proofs.YtncpjgpioajbeaaGreatDoor
open Go.RowKit Go.Sort

theorem swZ_there (key : Int) (A : List Int) (non : Int) : ∃ R : SwR, ∃ X Y j, Vd X Y j ∧ ptOf X Y j = EC.smul non.toNat EC.gJ.pt ∧ R = swR key non A X Y := by
  obtain ⟨X, Y, j, hv, ev⟩ := rep_pt (EC.smul_on EC.gJ_on non.toNat)
  exact ⟨_, X, Y, j, hv, ev, rfl⟩
/-- What SignWith answers. -/
noncomputable def swZ (key : Int) (A : List Int) (non : Int) : SwR := Classical.choose (swZ_there key A non)
theorem swZ_is (key : Int) (A : List Int) (non : Int) : ∃ X Y j, Vd X Y j ∧ ptOf X Y j = EC.smul non.toNat EC.gJ.pt ∧ swZ key A non = swR key non A X Y := Classical.choose_spec (swZ_there key A non)
theorem sw_any {key non : Int} {A : List Int} (hk : Num key) (hn : Num non) (hA : Byts A) (hl : A.length = 32) (w : World) (hm : Mds w) (hc : Cols w) :
    Calls Tryz.prog 8 #[.agg #[.int .u64 (l0 key), .int .u64 (l1 key), .int .u64 (l2 key), .int .u64 (l3 key)], .agg #[.int .u64 (l0 non), .int .u64 (l1 non), .int .u64 (l2 non), .int .u64 (l3 non)], hashV A] w fun e w' => e = .returned (.tuple #[.agg #[.int .u64 (l0 (swZ key A non).r), .int .u64 (l1 (swZ key A non).r), .int .u64 (l2 (swZ key A non).r), .int .u64 (l3 (swZ key A non).r), .int .u64 (l0 (swZ key A non).s), .int .u64 (l1 (swZ key A non).s), .int .u64 (l2 (swZ key A non).s), .int .u64 (l3 (swZ key A non).s), .bool (swZ key A non).o], .int .i64 (swZ key A non).e]) ∧ Below w.heap.size w w' := by
  obtain ⟨X, Y, j, hv, ev, e⟩ := swZ_is key A non
  rw [e]
  exact esw_any hk hn hA hl hv ev w hm hc
theorem zeroN : Num 0 := ⟨by decide, by decide⟩
theorem swZ_num (key : Int) (A : List Int) (non : Int) : Num (swZ key A non).r ∧ Num (swZ key A non).s := by
  obtain ⟨X, Y, j, hv, ev, e⟩ := swZ_is key A non
  rw [e]
  have nX := hv.low.1.num
  have nS : Num (swS key non (dgN A) X) := modN_Num fit_n _
  unfold swR
  split
  · exact ⟨zeroN, zeroN⟩
  · split
    · exact ⟨zeroN, zeroN⟩
    · split
      · exact ⟨zeroN, zeroN⟩
      · split
        · exact ⟨nX, nS⟩
        · exact ⟨nX, modN_Num fit_n _⟩
/-- What the i-th try gives. -/
noncomputable def sgZ (key : Int) (A : List Int) (i : Nat) : SwR := if nonE key A i = 0 then swZ key A (nonV key A i) else ⟨0, 0, false, nonE key A i⟩
theorem sgZ_num (key : Int) (A : List Int) (i : Nat) : Num (sgZ key A i).r ∧ Num (sgZ key A i).s := by
  unfold sgZ
  split
  · exact swZ_num _ _ _
  · exact ⟨zeroN, zeroN⟩
/-- The first try among n that went well. -/
noncomputable def fsZ (R : Nat → SwR) : Nat → Option SwR
  | 0 => none
  | n + 1 => (fsZ R n).or (if (R n).e = 0 then some (R n) else none)
theorem fsZ_mono {R : Nat → SwR} {n : Nat} {x : SwR} (h : fsZ R n = some x) : ∀ d, fsZ R (n + d) = some x
  | 0 => h
  | d + 1 => by rw [← Nat.add_assoc, fsZ, fsZ_mono h d]; rfl
theorem fsZ_here {R : Nat → SwR} {n : Nat} (h : fsZ R n = none) (e : (R n).e = 0) : fsZ R (n + 1) = some (R n) := by rw [fsZ, h, if_pos e]; rfl
theorem fsZ_not {R : Nat → SwR} {n : Nat} (h : fsZ R n = none) (e : (R n).e ≠ 0) : fsZ R (n + 1) = none := by rw [fsZ, h, if_neg e]; rfl
/-- What Sign answers of a key that fits. -/
noncomputable def okZ2 (R : Nat → SwR) : SwR := (fsZ R 64).getD ⟨0, 0, false, 65⟩
theorem okZ2_some {R : Nat → SwR} {n : Nat} {x : SwR} (h : fsZ R n = some x) (hn : n ≤ 64) : okZ2 R = x := by
  have := fsZ_mono h (64 - n)
  rw [show n + (64 - n) = 64 by omega] at this
  rw [okZ2, this]; rfl
theorem okZ2_none {R : Nat → SwR} (h : fsZ R 64 = none) : okZ2 R = ⟨0, 0, false, 65⟩ := by rw [okZ2, h]; rfl
set_option maxRecDepth 100000 in
set_option maxHeartbeats 8000000 in
theorem sclo_any {key v f r s e0 : Int} {o : Bool} {i bk bd : Nat} {M : List Value} (hl : M.length = 32)
    (CN : Hid (∀ w, Mds w → ShT w → Calls Tryz.prog 7 #[.agg #[.int .u64 (l0 key), .int .u64 (l1 key), .int .u64 (l2 key), .int .u64 (l3 key)], .agg M.toArray, .int .i64 (i : Int)] w fun e w' => e = .returned (.tuple #[.agg #[.int .u64 (l0 v), .int .u64 (l1 v), .int .u64 (l2 v), .int .u64 (l3 v)], .int .i64 f]) ∧ Below w.heap.size w w'))
    (CS : Hid (f = 0 → ∀ w, Mds w → Cols w → Calls Tryz.prog 8 #[.agg #[.int .u64 (l0 key), .int .u64 (l1 key), .int .u64 (l2 key), .int .u64 (l3 key)], .agg #[.int .u64 (l0 v), .int .u64 (l1 v), .int .u64 (l2 v), .int .u64 (l3 v)], .agg M.toArray] w fun e w' => e = .returned (.tuple #[.agg #[.int .u64 (l0 r), .int .u64 (l1 r), .int .u64 (l2 r), .int .u64 (l3 r), .int .u64 (l0 s), .int .u64 (l1 s), .int .u64 (l2 s), .int .u64 (l3 s), .bool o], .int .i64 e0]) ∧ Below w.heap.size w w'))
    (h0 : Hid (f ≠ 0 → r = 0 ∧ s = 0 ∧ o = false ∧ e0 = f)) (w : World) (hm : Mds w) (ht : ShT w) (hc : Cols w) (hk : Hold w bk key) (hd : w.rangeAt bd 0 M) :
    Calls Tryz.prog 15 #[.int .i64 (i : Int), .pointer (some ⟨bk, 0, none⟩), .pointer (some ⟨bd, 0, none⟩)] w fun e w' => e = .returned (.tuple #[.agg #[.int .u64 (l0 r), .int .u64 (l1 r), .int .u64 (l2 r), .int .u64 (l3 r), .int .u64 (l0 s), .int .u64 (l1 s), .int .u64 (l2 s), .int .u64 (l3 s), .bool o], .int .i64 e0]) ∧ Below w.heap.size w w' := by
  have il : (Tryz.prog.info? 26).map (·.size) = some M.length := by rw [hl]; kernel_rfl
  have BA : Hid (∀ (V : World) o, Below V.heap.size V (V.alloc o)) := fun V o => (Below.refl _ _).alloc (Nat.le_refl _) o
  have H0 : Hid (Mds w ∧ ShT w ∧ Cols w ∧ Hold w bk key ∧ w.rangeAt bd 0 M ∧ bk < w.heap.size) := ⟨hm, ht, hc, hk, hd, World.block_lt_of_cell? w _ hk.1⟩
  have gk := fun o => (hk.keep (BA.out w o)).cells
  have rg := fun o => rangeZ hd (BA.out w o)
  clear hm ht hc hk hd hl
  go_enter Tryz.func15, Tryz.ntmps15
  go_wp2_with (refine wpList_load_mid rfl 26 _ rfl bd 0 rfl M _ (rg _) Tryz.underlying26 rfl il ?_)
  refine calls_world (fun W => Below w.heap.size w W ∧ Bk9 W w.heap.size) ⟨BA.out _ _, Bk9.new rfl⟩ ?_
  rintro W ⟨B, hR⟩
  refine (CN.out W (H0.out.1.keep B) (H0.out.2.1.keep B)).mono ?_
  rintro e w2 ⟨rfl, hb⟩
  replace B := B.trans (hb.mono B.size)
  replace hR := hR.keep hb
  clear hb gk rg
  clear W
  have lr := hR.lt
  have o3 : w.heap.size ≤ w.heap.size := Nat.le_refl _
  by_cases hf : f = 0
  · subst hf
    have CS' : Hid (∀ w, Mds w → Cols w → Calls Tryz.prog 8 #[.agg #[.int .u64 (l0 key), .int .u64 (l1 key), .int .u64 (l2 key), .int .u64 (l3 key)], .agg #[.int .u64 (l0 v), .int .u64 (l1 v), .int .u64 (l2 v), .int .u64 (l3 v)], .agg M.toArray] w fun e w' => e = .returned (.tuple #[.agg #[.int .u64 (l0 r), .int .u64 (l1 r), .int .u64 (l2 r), .int .u64 (l3 r), .int .u64 (l0 s), .int .u64 (l1 s), .int .u64 (l2 s), .int .u64 (l3 s), .bool o], .int .i64 e0]) ∧ Below w.heap.size w w') := CS.out rfl
    have gk := fun o => ((H0.out.2.2.2.1.keep B).keep (BA.out _ o)).cells
    have gk0 := (H0.out.2.2.2.1.keep B).cells
    have rg := fun o => rangeZ (rangeZ H0.out.2.2.2.2.1 B) (BA.out _ o)
    have nbk : bk ≠ w2.heap.size := by have := H0.out.2.2.2.2.2; have := B.size; omega
    have H2 : Hid (Below w.heap.size w w2 ∧ Bk9 w2 w.heap.size) := ⟨B, hR⟩
    clear B hR CS h0 CN
    go_wp2_with (refine wpList_load_mid rfl 26 _ rfl bd 0 rfl M _ (rg _) Tryz.underlying26 rfl il ?_)
    refine calls_world (fun W => Below w2.heap.size w2 W) (BA.out _ _) ?_
    rintro W B2
    have B3 := H2.out.1.trans (B2.mono H2.out.1.size)
    refine (CS'.out W (H0.out.1.keep B3) (H0.out.2.2.1.keep B3)).mono ?_
    rintro e w4 ⟨rfl, hb⟩
    have B4 := B3.trans (hb.mono B3.size)
    have hR4 := (H2.out.2.keep B2).keep hb
    have gR := hR4.cells
    have fR := hR4.free
    clear hb B3 B2 hR4 gk gk0 rg nbk CS' H2 il H0
    clear W
    go_wp2
    simp [bodyPost, results, Tryz.results15, go_sem, gR]
    repeat (first | with_reducible exact B4 | with_reducible refine Below.setCell ?_ o3 _)
  · obtain ⟨rfl, rfl, rfl, rfl⟩ := h0.out hf
    obtain ⟨z0, z1, z2, z3⟩ := zero_limbs
    have hf1 : (e0 == 0) = false := by simpa using hf
    have hf2 : (e0 != 0) = true := by simpa using hf
    have gR := fun o => (hR.alloc o).cells
    have fR := fun o => (hR.alloc o).free
    have gR1 := hR.cells
    have fR1 := hR.free
    have nr : w2.heap.size ≠ w.heap.size := by omega
    have nr' := nr.symm
    clear hR CS CN il H0 BA
    go_wp2
    simp [bodyPost, results, Tryz.results15, go_sem, *]
    repeat (first | with_reducible exact B | with_reducible refine Below.alloc ?_ (by first | exact B.size | (simp; exact B.size)) _ | with_reducible refine Below.setCell ?_ o3 _)
end Go.Proofs.YtncpjgpioajbeaaGreatDoor

/- Signing: Sign of the program. -/
namespace Go.Proofs.YtncpjgpioajbeaaGreatDoor
open Go.RowKit Go.Sort

set_option maxRecDepth 100000 in
set_option maxHeartbeats 8000000 in
theorem sound_any {R : Nat → SwR} {bk bd : Nat} {x : SwR} (hx : okZ2 R = x) (w : World)
    (CL : Hid (∀ (i : Nat) (W : World), Below w.heap.size w W → Calls Tryz.prog 15 #[.int .i64 (i : Int), .pointer (some ⟨bk, 0, none⟩), .pointer (some ⟨bd, 0, none⟩)] W fun e w' => e = .returned (.tuple #[.agg #[.int .u64 (l0 (R i).r), .int .u64 (l1 (R i).r), .int .u64 (l2 (R i).r), .int .u64 (l3 (R i).r), .int .u64 (l0 (R i).s), .int .u64 (l1 (R i).s), .int .u64 (l2 (R i).s), .int .u64 (l3 (R i).s), .bool (R i).o], .int .i64 (R i).e]) ∧ Below W.heap.size W w')) :
    Calls Tryz.prog 14 #[.func (.func 15) #[] #[.pointer (some ⟨bk, 0, none⟩), .pointer (some ⟨bd, 0, none⟩)]] w fun e w' => e = .returned (.tuple #[.agg #[.int .u64 (l0 x.r), .int .u64 (l1 x.r), .int .u64 (l2 x.r), .int .u64 (l3 x.r), .int .u64 (l0 x.s), .int .u64 (l1 x.s), .int .u64 (l2 x.s), .int .u64 (l3 x.s), .bool x.o], .int .i64 x.e]) ∧ Below w.heap.size w w' := by
  have HX : Hid (okZ2 R = x) := hx
  have o3 : w.heap.size ≤ w.heap.size := Nat.le_refl _
  clear hx
  obtain ⟨z0, z1, z2, z3⟩ := zero_limbs
  go_enter Tryz.func14, Tryz.ntmps14
  go_wp2_with fail
  refine wp_world (fun W => Below w.heap.size w W ∧ Bk9 W w.heap.size) ⟨(Below.refl _ _).alloc (Nat.le_refl _) _, Bk9.new rfl⟩ ?_
  rintro W0 HW
  go_loopg [7] 64 (fun k iv wr => ∃ i : Nat, k = 64 - i ∧ i ≤ 64 ∧ iv = .int .i64 (i : Int) ∧ fsZ R i = none ∧ Below w.heap.size w wr ∧ Bk9 wr w.heap.size)
  case atStart => exact ⟨0, rfl, Nat.zero_le _, rfl, rfl, HW.1, HW.2⟩
  case round =>
    clear HW
    obtain ⟨i, hk, hi, rfl, hp, hB, hR⟩ := hrel
    have HK : Hid (gk = 64 - i) := hk
    have HP : Hid (fsZ R i = none ∧ Below w.heap.size w wr ∧ Bk9 wr w.heap.size) := ⟨hp, hB, hR⟩
    clear hk hp hB hR
    by_cases h8 : i = 64
    · subst h8
      have gR := HP.out.2.2.cells
      have fR := HP.out.2.2.free
      have ex : x = ⟨0, 0, false, 65⟩ := by rw [← HX.out]; exact okZ2_none HP.out.1
      subst ex
      have B4 := HP.out.2.1
      go_wp2
      simp [bodyPost, results, Tryz.results14, go_sem, gR]
      repeat (first | with_reducible exact B4 | with_reducible refine Below.setCell ?_ o3 _)
    · have hi' : (i : Int) < 64 := by omega
      have C1 := CL.out i
      have H1 : Hid (∀ y, y = R i → y.e = 0 → okZ2 R = y) := fun y e h => by rw [e] at h ⊢; exact okZ2_some (fsZ_here HP.out.1 h) (by omega)
      have H2 : Hid ((R i).e ≠ 0 → fsZ R (i + 1) = none) := fun h => fsZ_not HP.out.1 h
      obtain ⟨y, ey⟩ : ∃ y, y = R i := ⟨_, rfl⟩
      rw [← ey] at C1 H2
      replace H1 : Hid (y.e = 0 → okZ2 R = y) := H1.out y ey
      clear ey
      go_wp2_with fail
      refine (C1 wr HP.out.2.1).mono ?_
      rintro e w2 ⟨rfl, hb⟩
      have B := HP.out.2.1.trans (hb.mono HP.out.2.1.size)
      have hR := HP.out.2.2.keep hb
      clear hb C1
      have lr := hR.lt
      by_cases he : y.e = 0
      · have ex : x = y := by rw [← HX.out]; exact H1.out he
        subst ex
        have gR := fun o => (hR.alloc o).cells
        have fR := fun o => (hR.alloc o).free
        have gR1 := hR.cells
        have fR1 := hR.free
        have nr : w2.heap.size ≠ w.heap.size := by omega
        have nr' := nr.symm
        clear hR HP H1 H2 HX
        go_wp2
        simp [bodyPost, results, Tryz.results14, go_sem, *]
        repeat (first | with_reducible exact B | with_reducible refine Below.alloc ?_ (by first | exact B.size | (simp; exact B.size)) _ | with_reducible refine Below.setCell ?_ o3 _)
      · have H3 : Hid (fsZ R (i + 1) = none) := H2.out he
        have he1 : (y.e == 0) = false := by simpa using he
        have HF : Hid (Below w.heap.size w w2 ∧ Bk9 w2 w.heap.size) := ⟨B, hR⟩
        clear B hR H1 H2
        generalize y.e = f at *
        go_wp2
        go_roundg (64 - (i + 1))
        case measure => have := HK.out; omega
        case rel => exact ⟨i + 1, rfl, by omega, by go_num, H3.out, HF.out.1.alloc HF.out.1.size _, HF.out.2.alloc _⟩

/-- What holds in Sign behind its boxes. -/
structure SnZ (w W : World) (key : Int) (M : List Value) : Prop where
  below : Below w.heap.size w W
  mds : Mds W
  tab : ShT W
  col : Cols W
  key : Hold W w.heap.size key
  dig : W.rangeAt (w.heap.size + 1) 0 M
  res : Bk9 W (w.heap.size + 1 + 1)
theorem SnZ.keep {w W W' : World} {key : Int} {M : List Value} (h : SnZ w W key M) (B : Below W.heap.size W W') : SnZ w W' key M := ⟨h.below.trans (B.mono h.below.size), h.mds.keep B, h.tab.keep B, h.col.keep B, h.key.keep B, rangeZ h.dig B, h.res.keep B⟩
theorem snZ_new {w : World} {key : Int} {M : List Value} {t1 t2 t3 : TypeId} (hm : Mds w) (ht : ShT w) (hc : Cols w) : SnZ w (((w.alloc (.cells #[.int .u64 (l0 key), .int .u64 (l1 key), .int .u64 (l2 key), .int .u64 (l3 key)] t1)).alloc (.cells M.toArray t2)).alloc (.cells #[.int .u64 0, .int .u64 0, .int .u64 0, .int .u64 0, .int .u64 0, .int .u64 0, .int .u64 0, .int .u64 0, .bool false] t3)) key M := by
  have BA : ∀ (V : World) o, Below V.heap.size V (V.alloc o) := fun V o => (Below.refl _ _).alloc (Nat.le_refl _) o
  refine ⟨?_, ((hm.alloc _).alloc _).alloc _, ((ht.keep (BA _ _)).keep (BA _ _)).keep (BA _ _), ((hc.keep (BA _ _)).keep (BA _ _)).keep (BA _ _), ((Hold.new _ _ _).keep (BA _ _)).keep (BA _ _), ?_, Bk9.new (by simp)⟩
  · exact (((Below.refl _ _).alloc (Nat.le_refl _) _).alloc (by simp) _).alloc (by simp; omega) _
  · have := range_newZ (W := w.alloc (.cells #[.int .u64 (l0 key), .int .u64 (l1 key), .int .u64 (l2 key), .int .u64 (l3 key)] t1)) (cs := M) (t := t2)
    rw [show (w.alloc (.cells #[.int .u64 (l0 key), .int .u64 (l1 key), .int .u64 (l2 key), .int .u64 (l3 key)] t1)).heap.size = w.heap.size + 1 by simp] at this
    exact rangeZ this (BA _ _)

set_option maxRecDepth 100000 in
set_option maxHeartbeats 8000000 in
theorem sign_key {key : Int} {M : List Value} (hl : M.length = 32) (IN : Hid (∀ w, Mds w → Calls Tryz.prog 13 #[.agg #[.int .u64 (l0 key), .int .u64 (l1 key), .int .u64 (l2 key), .int .u64 (l3 key)]] w fun e w' => e = .returned (.bool false) ∧ Below w.heap.size w w')) (w : World) (hm : Mds w) (ht : ShT w) (hc : Cols w) :
    Calls Tryz.prog 5 #[.agg #[.int .u64 (l0 key), .int .u64 (l1 key), .int .u64 (l2 key), .int .u64 (l3 key)], .agg M.toArray] w fun e w' => e = .returned (.tuple #[.agg #[.int .u64 (l0 0), .int .u64 (l1 0), .int .u64 (l2 0), .int .u64 (l3 0), .int .u64 (l0 0), .int .u64 (l1 0), .int .u64 (l2 0), .int .u64 (l3 0), .bool false], .int .i64 60]) ∧ Below w.heap.size w w' := by
  have HL : Hid (M.length = 32) := hl
  clear hl
  obtain ⟨z0, z1, z2, z3⟩ := zero_limbs
  go_enter Tryz.func5, Tryz.ntmps5
  go_wp2_with fail
  refine calls_world (fun W => SnZ w W key M) (snZ_new hm ht hc) ?_
  clear hm ht hc
  rintro W HW
  with_reducible refine (IN.out _ HW.mds).mono ?_
  rintro e w2 ⟨rfl, hb⟩
  have H2 := HW.keep hb
  clear hb HW
  have gR := H2.res.cells
  have fR := H2.res.free
  have B9 := H2.below
  have o3 : w.heap.size ≤ w.heap.size + 1 + 1 := by omega
  clear H2
  generalize w.heap.size + 1 + 1 = br at *
  go_wp2
  simp [bodyPost, results, Tryz.results5, go_sem, *]
  repeat (first | with_reducible exact B9 | with_reducible refine Below.setCell ?_ o3 _)

set_option maxRecDepth 100000 in
set_option maxHeartbeats 8000000 in
theorem sign_ok {R : Nat → SwR} {x : SwR} {key : Int} {M : List Value} (hl : M.length = 32) (hx : okZ2 R = x) (IN : Hid (∀ w, Mds w → Calls Tryz.prog 13 #[.agg #[.int .u64 (l0 key), .int .u64 (l1 key), .int .u64 (l2 key), .int .u64 (l3 key)]] w fun e w' => e = .returned (.bool true) ∧ Below w.heap.size w w'))
    (CL : Hid (∀ (i bk bd : Nat) (W : World), Mds W → ShT W → Cols W → Hold W bk key → W.rangeAt bd 0 M → Calls Tryz.prog 15 #[.int .i64 (i : Int), .pointer (some ⟨bk, 0, none⟩), .pointer (some ⟨bd, 0, none⟩)] W fun e w' => e = .returned (.tuple #[.agg #[.int .u64 (l0 (R i).r), .int .u64 (l1 (R i).r), .int .u64 (l2 (R i).r), .int .u64 (l3 (R i).r), .int .u64 (l0 (R i).s), .int .u64 (l1 (R i).s), .int .u64 (l2 (R i).s), .int .u64 (l3 (R i).s), .bool (R i).o], .int .i64 (R i).e]) ∧ Below W.heap.size W w'))
    (w : World) (hm : Mds w) (ht : ShT w) (hc : Cols w) :
    Calls Tryz.prog 5 #[.agg #[.int .u64 (l0 key), .int .u64 (l1 key), .int .u64 (l2 key), .int .u64 (l3 key)], .agg M.toArray] w fun e w' => e = .returned (.tuple #[.agg #[.int .u64 (l0 x.r), .int .u64 (l1 x.r), .int .u64 (l2 x.r), .int .u64 (l3 x.r), .int .u64 (l0 x.s), .int .u64 (l1 x.s), .int .u64 (l2 x.s), .int .u64 (l3 x.s), .bool x.o], .int .i64 x.e]) ∧ Below w.heap.size w w' := by
  have HL : Hid (M.length = 32 ∧ okZ2 R = x) := ⟨hl, hx⟩
  clear hl hx
  go_enter Tryz.func5, Tryz.ntmps5
  go_wp2_with fail
  refine calls_world (fun W => SnZ w W key M) (snZ_new hm ht hc) ?_
  clear hm ht hc
  rintro W HW
  with_reducible refine (IN.out _ HW.mds).mono ?_
  rintro e w2 ⟨rfl, hb⟩
  have H2 := HW.keep hb
  clear hb HW IN
  clear W
  go_wp2_with fail
  refine (sound_any HL.out.2 w2 (fun i W b => CL.out i _ _ W (H2.mds.keep b) (H2.tab.keep b) (H2.col.keep b) (H2.key.keep b) (rangeZ H2.dig b))).mono ?_
  rintro e w3 ⟨rfl, hb⟩
  have H3 := H2.keep hb
  have gR := H3.res.cells
  have fR := H3.res.free
  have B9 := H3.below
  have o3 : w.heap.size ≤ w.heap.size + 1 + 1 := by omega
  clear H3 H2 hb CL
  clear w2
  generalize w.heap.size + 1 + 1 = br at *
  go_wp2
  simp [bodyPost, results, Tryz.results5, go_sem, gR]
  repeat (first | with_reducible exact B9 | with_reducible refine Below.setCell ?_ o3 _)
end Go.Proofs.YtncpjgpioajbeaaGreatDoor

/- EcdsaSigns. -/
namespace Go.Proofs.YtncpjgpioajbeaaGreatDoor
open Go.RowKit Go.Sort

/-- What Sign answers. -/
noncomputable def sigZ (key : Int) (A : List Int) : SwR := if fitN key then okZ2 (sgZ key A) else ⟨0, 0, false, 60⟩
theorem sgZ_err {key : Int} {A : List Int} {i : Nat} (h : nonE key A i ≠ 0) : sgZ key A i = ⟨0, 0, false, nonE key A i⟩ := by unfold sgZ; rw [if_neg h]
theorem sgZ_ok {key : Int} {A : List Int} {i : Nat} (h : nonE key A i = 0) : sgZ key A i = swZ key A (nonV key A i) := by unfold sgZ; rw [if_pos h]
theorem sign_any {key : Int} {A : List Int} (hk : Num key) (hA : Byts A) (hl : A.length = 32) (w : World) (hm : Mds w) (ht : ShT w) (hc : Cols w) :
    Calls Tryz.prog 5 #[.agg #[.int .u64 (l0 key), .int .u64 (l1 key), .int .u64 (l2 key), .int .u64 (l3 key)], hashV A] w fun e w' => e = .returned (.tuple #[.agg #[.int .u64 (l0 (sigZ key A).r), .int .u64 (l1 (sigZ key A).r), .int .u64 (l2 (sigZ key A).r), .int .u64 (l3 (sigZ key A).r), .int .u64 (l0 (sigZ key A).s), .int .u64 (l1 (sigZ key A).s), .int .u64 (l2 (sigZ key A).s), .int .u64 (l3 (sigZ key A).s), .bool (sigZ key A).o], .int .i64 (sigZ key A).e]) ∧ Below w.heap.size w w' := by
  have hM : (A.map fun z => Value.int .u8 z).length = 32 := by rw [List.length_map]; exact hl
  have IN := einside_any hk
  cases hf : fitN key with
  | false =>
    rw [hf] at IN
    rw [show sigZ key A = ⟨0, 0, false, 60⟩ by unfold sigZ; rw [hf]; rfl]
    exact sign_key hM IN w hm ht hc
  | true =>
    rw [hf] at IN
    rw [show sigZ key A = okZ2 (sgZ key A) by unfold sigZ; rw [hf]; rfl]
    refine sign_ok hM rfl IN (fun i bk bd W hm ht hc hk' hd => ?_) w hm ht hc
    exact sclo_any hM (fun w hm ht => nonce_any hk hA hl w hm ht) (fun h w hm hc => by rw [sgZ_ok h]; exact sw_any hk (nonV_num _ _ _) hA hl w hm hc) (fun h => by rw [sgZ_err h]; exact ⟨rfl, rfl, rfl, rfl⟩) W hm ht hc hk' hd
theorem fsZ_num {R : Nat → SwR} (hR : ∀ i, Num (R i).r ∧ Num (R i).s) {x : SwR} : ∀ {n : Nat}, fsZ R n = some x → Num x.r ∧ Num x.s
  | 0, h => by simp [fsZ] at h
  | n + 1, h => by
    rw [fsZ] at h
    cases e : fsZ R n with
    | some y => rw [e] at h; exact fsZ_num hR (n := n) (by rw [e]; exact h)
    | none =>
      rw [e] at h
      by_cases k : (R n).e = 0
      · rw [if_pos k] at h
        have : R n = x := by simpa using h
        rw [← this]; exact hR n
      · rw [if_neg k] at h
        simp at h
theorem sigZ_num (key : Int) (A : List Int) : Num (sigZ key A).r ∧ Num (sigZ key A).s := by
  unfold sigZ
  split
  · unfold okZ2
    cases h : fsZ (sgZ key A) 64 with
    | none => exact ⟨zeroN, zeroN⟩
    | some x => exact fsZ_num (sgZ_num key A) h
  · exact ⟨zeroN, zeroN⟩

end Go.Proofs.YtncpjgpioajbeaaGreatDoor

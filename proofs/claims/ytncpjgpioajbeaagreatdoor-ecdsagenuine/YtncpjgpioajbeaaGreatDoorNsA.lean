import Derived.Test.YtncpjgpioajbeaaGreatDoorR6SB
import Derived.Test.YtncpjgpioajbeaaGreatDoorNzK
import Derived.Test.YtncpjgpioajbeaaGreatDoorESWA
/- Signing: what each nonce gives. -/
namespace Go.Proofs.YtncpjgpioajbeaaGreatDoor
open Go.RowKit Go.Sort

theorem swZ_there (key : Int) (A : List Int) (non : Int) : ∃ R : SwR, ∃ X Y j, Vd X Y j ∧ ptOf X Y j = EC.smul non.toNat EC.gJ.pt ∧ R = swR key non A X Y := by
  obtain ⟨X, Y, j, hv, ev⟩ := rep_pt (EC.smul_on EC.gJ_on non.toNat)
  exact ⟨_, X, Y, j, hv, ev, rfl⟩
/-- What SignWith answers. -/
noncomputable def swZ (key : Int) (A : List Int) (non : Int) : SwR := Classical.choose (swZ_there key A non)
theorem swZ_is (key : Int) (A : List Int) (non : Int) : ∃ X Y j, Vd X Y j ∧ ptOf X Y j = EC.smul non.toNat EC.gJ.pt ∧ swZ key A non = swR key non A X Y := Classical.choose_spec (swZ_there key A non)
theorem sw_any {key non : Int} {A : List Int} (hk : Num key) (hn : Num non) (hA : Byts A) (hl : A.length = 32) (w : World) (hm : Mds w) (hc : Cols w) :
    Calls Tryz.prog 8 #[.agg #[.int .u64 (l0 key), .int .u64 (l1 key), .int .u64 (l2 key), .int .u64 (l3 key)], .agg #[.int .u64 (l0 non), .int .u64 (l1 non), .int .u64 (l2 non), .int .u64 (l3 non)], hashV A] w fun e w' => e = .returned (.tuple #[.agg #[.int .u64 (l0 (swZ key A non).r), .int .u64 (l1 (swZ key A non).r), .int .u64 (l2 (swZ key A non).r), .int .u64 (l3 (swZ key A non).r), .int .u64 (l0 (swZ key A non).s), .int .u64 (l1 (swZ key A non).s), .int .u64 (l2 (swZ key A non).s), .int .u64 (l3 (swZ key A non).s), .bool (swZ key A non).o], .int .i64 (swZ key A non).e]) ∧ Below w.heap.size w w' := by
  obtain ⟨X, Y, j, hv, ev, e⟩ := swZ_is key A non
  rw [e]
  exact esw_any hk hn hA hl hv ev w hm hc
theorem zeroN : Num 0 := ⟨by decide, by decide⟩
theorem swZ_num (key : Int) (A : List Int) (non : Int) : Num (swZ key A non).r ∧ Num (swZ key A non).s := by
  obtain ⟨X, Y, j, hv, ev, e⟩ := swZ_is key A non
  rw [e]
  have nX := hv.low.1.num
  have nS : Num (swS key non (dgN A) X) := modN_Num fit_n _
  unfold swR
  split
  · exact ⟨zeroN, zeroN⟩
  · split
    · exact ⟨zeroN, zeroN⟩
    · split
      · exact ⟨zeroN, zeroN⟩
      · split
        · exact ⟨nX, nS⟩
        · exact ⟨nX, modN_Num fit_n _⟩
/-- What the i-th try gives. -/
noncomputable def sgZ (key : Int) (A : List Int) (i : Nat) : SwR := if nonE key A i = 0 then swZ key A (nonV key A i) else ⟨0, 0, false, nonE key A i⟩
theorem sgZ_num (key : Int) (A : List Int) (i : Nat) : Num (sgZ key A i).r ∧ Num (sgZ key A i).s := by
  unfold sgZ
  split
  · exact swZ_num _ _ _
  · exact ⟨zeroN, zeroN⟩
/-- The first try among n that went well. -/
noncomputable def fsZ (R : Nat → SwR) : Nat → Option SwR
  | 0 => none
  | n + 1 => (fsZ R n).or (if (R n).e = 0 then some (R n) else none)
theorem fsZ_mono {R : Nat → SwR} {n : Nat} {x : SwR} (h : fsZ R n = some x) : ∀ d, fsZ R (n + d) = some x
  | 0 => h
  | d + 1 => by rw [← Nat.add_assoc, fsZ, fsZ_mono h d]; rfl
theorem fsZ_here {R : Nat → SwR} {n : Nat} (h : fsZ R n = none) (e : (R n).e = 0) : fsZ R (n + 1) = some (R n) := by rw [fsZ, h, if_pos e]; rfl
theorem fsZ_not {R : Nat → SwR} {n : Nat} (h : fsZ R n = none) (e : (R n).e ≠ 0) : fsZ R (n + 1) = none := by rw [fsZ, h, if_neg e]; rfl
/-- What Sign answers of a key that fits. -/
noncomputable def okZ2 (R : Nat → SwR) : SwR := (fsZ R 64).getD ⟨0, 0, false, 65⟩
theorem okZ2_some {R : Nat → SwR} {n : Nat} {x : SwR} (h : fsZ R n = some x) (hn : n ≤ 64) : okZ2 R = x := by
  have := fsZ_mono h (64 - n)
  rw [show n + (64 - n) = 64 by omega] at this
  rw [okZ2, this]; rfl
theorem okZ2_none {R : Nat → SwR} (h : fsZ R 64 = none) : okZ2 R = ⟨0, 0, false, 65⟩ := by rw [okZ2, h]; rfl
set_option maxRecDepth 100000 in
set_option maxHeartbeats 8000000 in
theorem sclo_any {key v f r s e0 : Int} {o : Bool} {i bk bd : Nat} {M : List Value} (hl : M.length = 32)
    (CN : Hid (∀ w, Mds w → ShT w → Calls Tryz.prog 7 #[.agg #[.int .u64 (l0 key), .int .u64 (l1 key), .int .u64 (l2 key), .int .u64 (l3 key)], .agg M.toArray, .int .i64 (i : Int)] w fun e w' => e = .returned (.tuple #[.agg #[.int .u64 (l0 v), .int .u64 (l1 v), .int .u64 (l2 v), .int .u64 (l3 v)], .int .i64 f]) ∧ Below w.heap.size w w'))
    (CS : Hid (f = 0 → ∀ w, Mds w → Cols w → Calls Tryz.prog 8 #[.agg #[.int .u64 (l0 key), .int .u64 (l1 key), .int .u64 (l2 key), .int .u64 (l3 key)], .agg #[.int .u64 (l0 v), .int .u64 (l1 v), .int .u64 (l2 v), .int .u64 (l3 v)], .agg M.toArray] w fun e w' => e = .returned (.tuple #[.agg #[.int .u64 (l0 r), .int .u64 (l1 r), .int .u64 (l2 r), .int .u64 (l3 r), .int .u64 (l0 s), .int .u64 (l1 s), .int .u64 (l2 s), .int .u64 (l3 s), .bool o], .int .i64 e0]) ∧ Below w.heap.size w w'))
    (h0 : Hid (f ≠ 0 → r = 0 ∧ s = 0 ∧ o = false ∧ e0 = f)) (w : World) (hm : Mds w) (ht : ShT w) (hc : Cols w) (hk : Hold w bk key) (hd : w.rangeAt bd 0 M) :
    Calls Tryz.prog 15 #[.int .i64 (i : Int), .pointer (some ⟨bk, 0, none⟩), .pointer (some ⟨bd, 0, none⟩)] w fun e w' => e = .returned (.tuple #[.agg #[.int .u64 (l0 r), .int .u64 (l1 r), .int .u64 (l2 r), .int .u64 (l3 r), .int .u64 (l0 s), .int .u64 (l1 s), .int .u64 (l2 s), .int .u64 (l3 s), .bool o], .int .i64 e0]) ∧ Below w.heap.size w w' := by
  have il : (Tryz.prog.info? 26).map (·.size) = some M.length := by rw [hl]; kernel_rfl
  have BA : Hid (∀ (V : World) o, Below V.heap.size V (V.alloc o)) := fun V o => (Below.refl _ _).alloc (Nat.le_refl _) o
  have H0 : Hid (Mds w ∧ ShT w ∧ Cols w ∧ Hold w bk key ∧ w.rangeAt bd 0 M ∧ bk < w.heap.size) := ⟨hm, ht, hc, hk, hd, World.block_lt_of_cell? w _ hk.1⟩
  have gk := fun o => (hk.keep (BA.out w o)).cells
  have rg := fun o => rangeZ hd (BA.out w o)
  clear hm ht hc hk hd hl
  go_enter Tryz.func15, Tryz.ntmps15
  go_wp2_with (refine wpList_load_mid rfl 26 _ rfl bd 0 rfl M _ (rg _) Tryz.underlying26 rfl il ?_)
  refine calls_world (fun W => Below w.heap.size w W ∧ Bk9 W w.heap.size) ⟨BA.out _ _, Bk9.new rfl⟩ ?_
  rintro W ⟨B, hR⟩
  refine (CN.out W (H0.out.1.keep B) (H0.out.2.1.keep B)).mono ?_
  rintro e w2 ⟨rfl, hb⟩
  replace B := B.trans (hb.mono B.size)
  replace hR := hR.keep hb
  clear hb gk rg
  clear W
  have lr := hR.lt
  have o3 : w.heap.size ≤ w.heap.size := Nat.le_refl _
  by_cases hf : f = 0
  · subst hf
    have CS' : Hid (∀ w, Mds w → Cols w → Calls Tryz.prog 8 #[.agg #[.int .u64 (l0 key), .int .u64 (l1 key), .int .u64 (l2 key), .int .u64 (l3 key)], .agg #[.int .u64 (l0 v), .int .u64 (l1 v), .int .u64 (l2 v), .int .u64 (l3 v)], .agg M.toArray] w fun e w' => e = .returned (.tuple #[.agg #[.int .u64 (l0 r), .int .u64 (l1 r), .int .u64 (l2 r), .int .u64 (l3 r), .int .u64 (l0 s), .int .u64 (l1 s), .int .u64 (l2 s), .int .u64 (l3 s), .bool o], .int .i64 e0]) ∧ Below w.heap.size w w') := CS.out rfl
    have gk := fun o => ((H0.out.2.2.2.1.keep B).keep (BA.out _ o)).cells
    have gk0 := (H0.out.2.2.2.1.keep B).cells
    have rg := fun o => rangeZ (rangeZ H0.out.2.2.2.2.1 B) (BA.out _ o)
    have nbk : bk ≠ w2.heap.size := by have := H0.out.2.2.2.2.2; have := B.size; omega
    have H2 : Hid (Below w.heap.size w w2 ∧ Bk9 w2 w.heap.size) := ⟨B, hR⟩
    clear B hR CS h0 CN
    go_wp2_with (refine wpList_load_mid rfl 26 _ rfl bd 0 rfl M _ (rg _) Tryz.underlying26 rfl il ?_)
    refine calls_world (fun W => Below w2.heap.size w2 W) (BA.out _ _) ?_
    rintro W B2
    have B3 := H2.out.1.trans (B2.mono H2.out.1.size)
    refine (CS'.out W (H0.out.1.keep B3) (H0.out.2.2.1.keep B3)).mono ?_
    rintro e w4 ⟨rfl, hb⟩
    have B4 := B3.trans (hb.mono B3.size)
    have hR4 := (H2.out.2.keep B2).keep hb
    have gR := hR4.cells
    have fR := hR4.free
    clear hb B3 B2 hR4 gk gk0 rg nbk CS' H2 il H0
    clear W
    go_wp2
    simp [bodyPost, results, Tryz.results15, go_sem, gR]
    repeat (first | with_reducible exact B4 | with_reducible refine Below.setCell ?_ o3 _)
  · obtain ⟨rfl, rfl, rfl, rfl⟩ := h0.out hf
    obtain ⟨z0, z1, z2, z3⟩ := zero_limbs
    have hf1 : (e0 == 0) = false := by simpa using hf
    have hf2 : (e0 != 0) = true := by simpa using hf
    have gR := fun o => (hR.alloc o).cells
    have fR := fun o => (hR.alloc o).free
    have gR1 := hR.cells
    have fR1 := hR.free
    have nr : w2.heap.size ≠ w.heap.size := by omega
    have nr' := nr.symm
    clear hR CS CN il H0 BA
    go_wp2
    simp [bodyPost, results, Tryz.results15, go_sem, *]
    repeat (first | with_reducible exact B | with_reducible refine Below.alloc ?_ (by first | exact B.size | (simp; exact B.size)) _ | with_reducible refine Below.setCell ?_ o3 _)
end Go.Proofs.YtncpjgpioajbeaaGreatDoor

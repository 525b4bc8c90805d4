import Derived.Test.YtncpjgpioajbeaaGreatDoorNzC
import Derived.Test.YtncpjgpioajbeaaGreatDoorEChk
/- Nonces: which candidate is chosen, of the program. -/
namespace Go.Proofs.YtncpjgpioajbeaaGreatDoor
open Go.RowKit Go.Sort

/-- What the choice answers: the number, the error. -/
def nzV (C : Nat → Int) (w : Nat) : Int := (pkZ C w 256).getD 0
def nzE (C : Nat → Int) (w : Nat) : Int := if (pkZ C w 256).isSome then 0 else 65
theorem nz_some {C : Nat → Int} {w n : Nat} {x : Int} (h : pkZ C w n = some x) (hn : n ≤ 256) : nzV C w = x ∧ nzE C w = 0 := by
  have := pkZ_mono h (256 - n)
  rw [show n + (256 - n) = 256 by omega] at this
  exact ⟨by rw [nzV, this]; rfl, by rw [nzE, this]; rfl⟩
theorem nz_none {C : Nat → Int} {w : Nat} (h : pkZ C w 256 = none) : nzV C w = 0 ∧ nzE C w = 65 := ⟨by rw [nzV, h]; rfl, by rw [nzE, h]; rfl⟩
theorem next_any {bf bs bk bv : Nat} {s : KvZ} {i : Nat} (w : World) (hx : NxZ w bf bs bk bv (decide (i = 0)) (kvZ s i)) (ha : ApZ bf bs bk bv) (ht : ShT w) :
    Calls Tryz.prog 41 #[.pointer (some ⟨bf, 0, none⟩), .pointer (some ⟨bs, 0, none⟩), .pointer (some ⟨bk, 0, none⟩), .pointer (some ⟨bv, 0, none⟩)] w fun e w' => e = .returned (.agg #[.int .u64 (l0 (cndZ s i)), .int .u64 (l1 (cndZ s i)), .int .u64 (l2 (cndZ s i)), .int .u64 (l3 (cndZ s i))]) ∧ NxZ w' bf bs bk bv (decide (i + 1 = 0)) (kvZ s (i + 1)) ∧ BtZ (PsZ bf bk bv) w w' := by
  cases i with
  | zero => exact next_first w hx ha ht
  | succ i => exact next_more w hx ha ht

/-- What holds while candidates are drawn. -/
structure DrZ (w W : World) (bf bs bk bv : Nat) (s : KvZ) (i : Nat) : Prop where
  nx : NxZ W bf bs bk bv (decide (i = 0)) (kvZ s i)
  tab : ShT W
  mds : Mds W
  bt : BtZ (PsZ bf bk bv) w W
  res : Blank W w.heap.size
theorem DrZ.keep {w W W' : World} {bf bs bk bv i : Nat} {s : KvZ} (h : DrZ w W bf bs bk bv s i) (b : Below W.heap.size W W') : DrZ w W' bf bs bk bv s i := ⟨h.nx.keep b, h.tab.keep b, h.mds.keep b, h.bt.trans (BtZ.of_below b), h.res.keep b⟩
def MpZ (bf bk bv : Nat) : Prop := ¬ PsZ bf bk bv 1

theorem PsZ_not {bf bk bv x : Nat} (h1 : x ≠ bf) (h2 : x ≠ bk) (h3 : x ≠ bv) : ¬ PsZ bf bk bv x := fun h => h.elim h1 fun h => h.elim h2 h3
theorem DrZ.step {w W W' : World} {bf bs bk bv i : Nat} {s : KvZ} (h : DrZ w W bf bs bk bv s i) (nx : NxZ W' bf bs bk bv (decide (i + 1 = 0)) (kvZ s (i + 1))) (bt : BtZ (PsZ bf bk bv) W W') (ha : ApZ bf bs bk bv) (hp : MpZ bf bk bv) (lt : bf < w.heap.size ∧ bs < w.heap.size ∧ bk < w.heap.size ∧ bv < w.heap.size) : DrZ w W' bf bs bk bv s (i + 1) := by
  obtain ⟨a1, a2, a3, a4, a5, a6, a7, a8, a9⟩ := ha
  exact ⟨nx, bt.sht ⟨PsZ_not (Ne.symm a9.1) (Ne.symm a7.1) (Ne.symm a8.1), PsZ_not (Ne.symm a9.2) (Ne.symm a7.2) (Ne.symm a8.2)⟩ h.tab, bt.mds hp h.mds, h.bt.trans bt, bt.blank (PsZ_not (by omega) (by omega) (by omega)) h.res⟩

set_option maxRecDepth 100000 in
set_option maxHeartbeats 8000000 in
theorem chosen_any {bf bs bk bv wh : Nat} {s : KvZ} (hs : s.ok) (hw : wh < 64) (w : World) (hx : NxZ w bf bs bk bv true s) (ha : ApZ bf bs bk bv) (hp : MpZ bf bk bv) (ht : ShT w) (hm : Mds w) :
    Calls Tryz.prog 18 #[.func (.func 41) #[] #[.pointer (some ⟨bf, 0, none⟩), .pointer (some ⟨bs, 0, none⟩), .pointer (some ⟨bk, 0, none⟩), .pointer (some ⟨bv, 0, none⟩)], .int .i64 (wh : Int)] w fun e w' => e = .returned (.tuple #[.agg #[.int .u64 (l0 (nzV (cndZ s) wh)), .int .u64 (l1 (nzV (cndZ s) wh)), .int .u64 (l2 (nzV (cndZ s) wh)), .int .u64 (l3 (nzV (cndZ s) wh))], .int .i64 (nzE (cndZ s) wh)]) ∧ BtZ (PsZ bf bk bv) w w' := by
  have HA : Hid (ApZ bf bs bk bv ∧ MpZ bf bk bv ∧ s.ok ∧ wh < 64) := ⟨ha, hp, hs, hw⟩
  have LT : Hid (bf < w.heap.size ∧ bs < w.heap.size ∧ bk < w.heap.size ∧ bv < w.heap.size) := ⟨World.block_lt_of_cell? w _ hx.mark, World.block_lt_of_cell? w _ hx.stir, hx.kv.1.lt, hx.kv.2.lt⟩
  have D0 : ∀ z, DrZ w (w.alloc (.cells #[.int .u64 0, .int .u64 0, .int .u64 0, .int .u64 0] z)) bf bs bk bv s 0 := fun z => by
    have b := (Below.refl w.heap.size w).alloc (Nat.le_refl _) (.cells #[.int .u64 0, .int .u64 0, .int .u64 0, .int .u64 0] z)
    exact ⟨hx.keep b, ht.keep b, hm.keep b, BtZ.of_below b, Blank.new rfl⟩
  have w64 : (wh : Int) < 64 := by omega
  clear hx ha hp ht hm hs hw
  go_enter Tryz.func18, Tryz.ntmps18
  go_wp2_with fail
  refine wp_world (fun W => DrZ w W bf bs bk bv s 0) (D0 _) ?_
  clear D0
  rintro W0 D0
  go_loopg [6, 8] 256 (fun k fv iv wr => ∃ i : Nat, k = 256 - i ∧ i ≤ 256 ∧ fv = .int .i64 (cntZ (cndZ s) i : Nat) ∧ iv = .int .i64 (i : Int) ∧ pkZ (cndZ s) wh i = none ∧ DrZ w wr bf bs bk bv s i)
  case atStart => exact ⟨0, rfl, Nat.zero_le _, rfl, rfl, rfl, D0⟩
  case round =>
    clear D0
    obtain ⟨i, hk, hi, rfl, rfl, hpk, hd⟩ := hrel
    have HK : Hid (gk = 256 - i) := hk
    have HD : Hid (pkZ (cndZ s) wh i = none ∧ DrZ w wr bf bs bk bv s i) := ⟨hpk, hd⟩
    clear hk hpk hd
    by_cases h8 : i = 256
    · subst h8
      have hR := HD.out.2.res
      have gR0 := hR.1.all4
      have fR0 := hR.2.all4
      clear hR
      go_wp2
      obtain ⟨e1, e2⟩ := nz_none HD.out.1
      have z0 : l0 0 = 0 ∧ l1 0 = 0 ∧ l2 0 = 0 ∧ l3 0 = 0 := by decide
      have o4 := fun v0 v1 v2 v3 => ((((S.Off.refl w.heap.size wr).setCell (i := 0) v0).setCell (i := 1) v1).setCell (i := 2) v2).setCell (i := 3) v3
      have fin := fun v0 v1 v2 v3 => HD.out.2.bt.off_new (o4 v0 v1 v2 v3)
      simp [bodyPost, results, Tryz.results18, go_sem, gR0, e1, e2, z0]
      exact fin _ _ _ _
    · have hi' : (i : Int) < 256 := by omega
      have cl := cntZ_le (cndZ s) i
      have nm := cndZ_num s i
      go_wp2_with fail
      refine (next_any wr HD.out.2.nx HA.out.1 HD.out.2.tab).mono ?_
      rintro e w1 ⟨rfl, hnx, hbt⟩
      have D1 := HD.out.2.step hnx hbt HA.out.1 HA.out.2.1 LT.out
      have P1 : Hid (pkZ (cndZ s) wh i = none) := HD.out.1
      have CN : Hid (cntZ (cndZ s) (i + 1) = if fitN (cndZ s i) then cntZ (cndZ s) i + 1 else cntZ (cndZ s) i) := rfl
      clear hnx hbt HD
      go_wp2_with fail
      refine calls_world (fun W => DrZ w W bf bs bk bv s (i + 1) ∧ Hold W w1.heap.size (cndZ s i)) ⟨D1.keep ((Below.refl _ _).alloc (Nat.le_refl _) _), Hold.new _ _ _⟩ ?_
      rintro W1 ⟨D2, hC⟩
      clear D1
      generalize w1.heap.size = b7 at *
      have IN := einside_any nm
      clear nm
      have EC : Hid (∀ x, cndZ s i = x → cndZ s i = x) := fun _ h => h
      cases hf : fitN (cndZ s i) with
      | false =>
        rw [hf] at IN
        with_reducible refine (IN.out _ D2.mds).mono ?_
        rintro e w2 ⟨rfl, hb⟩
        have D3 := D2.keep hb
        have FN : Hid (fitN (cndZ s i) = false ∧ DrZ w w2 bf bs bk bv s (i + 1)) := ⟨hf, D3⟩
        clear hb D2 D3 hC IN hf EC
        go_wp2
        go_roundg (256 - (i + 1))
        case measure => have := HK.out; omega
        case rel =>
          refine ⟨i + 1, rfl, by omega, ?_, by go_num, pkZ_unfit P1.out FN.out.1, FN.out.2⟩
          rw [CN.out, FN.out.1]
          rfl
      | true =>
        rw [hf] at IN
        with_reducible refine (IN.out _ D2.mds).mono ?_
        rintro e w2 ⟨rfl, hb⟩
        have D3 := D2.keep hb
        have hC2 := hC.keep hb
        have FN : Hid (fitN (cndZ s i) = true ∧ DrZ w w2 bf bs bk bv s (i + 1)) := ⟨hf, D3⟩
        have gC := hC2.cells
        have gR0 := D3.res.1.all4
        have fR0 := D3.res.2.all4
        clear hb D2 D3 hC hC2 IN hf EC
        by_cases he : cntZ (cndZ s) i = wh
        · have HE : Hid (pkZ (cndZ s) wh (i + 1) = some (cndZ s i)) := pkZ_here P1.out FN.out.1 he
          have he' : ((cntZ (cndZ s) i : Nat) : Int) = (wh : Int) := by rw [he]
          clear CN
          generalize cntZ (cndZ s) i = ct at *
          go_wp2
          obtain ⟨e1, e2⟩ := nz_some HE.out (by omega)
          have o4 := fun v0 v1 v2 v3 => ((((S.Off.refl w.heap.size w2).setCell (i := 0) v0).setCell (i := 1) v1).setCell (i := 2) v2).setCell (i := 3) v3
          have fin := fun v0 v1 v2 v3 => FN.out.2.bt.off_new (o4 v0 v1 v2 v3)
          simp [bodyPost, results, Tryz.results18, go_sem, gR0, e1, e2]
          exact fin _ _ _ _
        · have HE : Hid (pkZ (cndZ s) wh (i + 1) = none) := pkZ_other P1.out he
          have he' : ¬ ((cntZ (cndZ s) i : Nat) : Int) = (wh : Int) := by omega
          clear gC gR0 fR0
          obtain ⟨ct, ect⟩ : ∃ ct, ct = cntZ (cndZ s) i := ⟨_, rfl⟩
          rw [← ect] at he he' cl ⊢
          rw [← ect] at CN
          clear ect
          go_wp2
          go_roundg (256 - (i + 1))
          case measure => have := HK.out; omega
          case rel =>
            refine ⟨i + 1, rfl, by omega, ?_, by go_num, HE.out, FN.out.2⟩
            rw [CN.out, FN.out.1]
            go_num
end Go.Proofs.YtncpjgpioajbeaaGreatDoor

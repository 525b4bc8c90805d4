import Derived.Test.YtncpjgpioajbeaaGreatDoorNzH
/- Nonces: the document's choice. -/
namespace Go.Proofs.YtncpjgpioajbeaaGreatDoor
open Go.RowKit Go.Sort

set_option maxRecDepth 100000 in
set_option maxHeartbeats 8000000 in
theorem rfit_any {C : Nat → Int} {wh n g o c : Nat} {a : Option Addr} (hC : ∀ i, Num (C i)) (hw : wh < 64) (hn : n ≤ 256) (ha : At4 a g o ((List.range n).map C)) (w : World) (hN : Nms w g o ((List.range n).map C)) :
    Calls Tryz.prog 67 #[.slice a n c, .int .i64 (wh : Int)] w fun e w' => e = .returned (.tuple #[.agg #[.int .u64 (l0 ((pkZ C wh n).getD 0)), .int .u64 (l1 ((pkZ C wh n).getD 0)), .int .u64 (l2 ((pkZ C wh n).getD 0)), .int .u64 (l3 ((pkZ C wh n).getD 0))], .bool (pkZ C wh n).isSome]) ∧ Below w.heap.size w w' := by
  have w64 : (wh : Int) < 64 := by omega
  have n6 : (n : Int) ≤ 256 := by omega
  have gt : ∀ i, i < n → ((List.range n).map C).getD i 0 = C i := fun i hi => by simp [List.getD, hi]
  have HC : Hid ((∀ i, Num (C i)) ∧ n ≤ 256 ∧ wh < 64) := ⟨hC, hn, hw⟩
  have KD : Hid (∀ W, Below w.heap.size w W → ∀ i, i < n → a = some ⟨g, o, none⟩ ∧ W.cell? ⟨g, o + i * 4, none⟩ = some (.int .u64 (l0 (C i))) ∧ W.cell? ⟨g, o + i * 4 + 1, none⟩ = some (.int .u64 (l1 (C i))) ∧ W.cell? ⟨g, o + i * 4 + 2, none⟩ = some (.int .u64 (l2 (C i))) ∧ W.cell? ⟨g, o + i * 4 + 3, none⟩ = some (.int .u64 (l3 (C i)))) := fun W hb i hi => by
    have := (hN.keep hb) i (by simpa using hi)
    rw [gt i hi] at this
    refine ⟨ha.resolve_left (fun e => ?_), this⟩
    have := congrArg List.length e
    simp at this
    omega
  have z0 : l0 0 = 0 ∧ l1 0 = 0 ∧ l2 0 = 0 ∧ l3 0 = 0 := by decide
  clear hC hw hn ha hN gt
  go_enter Tryz.func67, Tryz.ntmps67
  go_wp2_with fail
  refine wp_world (fun W => Below w.heap.size w W ∧ Blank W w.heap.size) ⟨(Below.refl _ _).alloc (Nat.le_refl _) _, Blank.new rfl⟩ ?_
  rintro W0 HW
  go_loopg [1, 6] n (fun q hv iv wr => ∃ i : Nat, q = n - i ∧ i ≤ n ∧ hv = .int .i64 ((wh : Int) - (cntZ C i : Nat)) ∧ iv = .int .i64 (i : Int) ∧ cntZ C i ≤ wh ∧ pkZ C wh i = none ∧ Below w.heap.size w wr ∧ Blank wr w.heap.size)
  case atStart => exact ⟨0, rfl, Nat.zero_le _, by simp [cntZ], rfl, Nat.zero_le _, rfl, HW.1, HW.2⟩
  case round =>
    clear HW
    obtain ⟨i, hk, hi, rfl, rfl, hc, hp, hB, hR⟩ := hrel
    have HK : Hid (gk = n - i ∧ i ≤ n) := ⟨hk, hi⟩
    have HP : Hid (pkZ C wh i = none ∧ Below w.heap.size w wr ∧ Blank wr w.heap.size) := ⟨hp, hB, hR⟩
    clear hk hp hB hR
    by_cases h8 : i = n
    · subst h8
      have gR0 := HP.out.2.2.1.all4
      have fR0 := HP.out.2.2.2.all4
      go_wp2
      have e1 : (pkZ C wh i).getD 0 = 0 := by rw [HP.out.1]; rfl
      have e2 : (pkZ C wh i).isSome = false := by rw [HP.out.1]; rfl
      have fin := fun v0 v1 v2 v3 => ((((S.Off.refl w.heap.size wr).setCell (i := 0) v0).setCell (i := 1) v1).setCell (i := 2) v2).setCell (i := 3) v3
      have fb := fun v0 v1 v2 v3 => HP.out.2.1.trans ((fin v0 v1 v2 v3).below (B := w.heap.size) HP.out.2.1.size (Nat.le_refl _))
      simp [bodyPost, results, Tryz.results67, go_sem, gR0, e1, e2, z0]
      exact fb _ _ _ _
    · have hi' : (i : Int) < (n : Int) := by omega
      obtain ⟨rfl, gA⟩ := KD.out wr HP.out.2.1 i (by omega)
      have IN := r6fit_any (HC.out.1 i)
      have CN : Hid (cntZ C (i + 1) = if fitN (C i) then cntZ C i + 1 else cntZ C i) := rfl
      cases hf : fitN (C i) with
      | false =>
        rw [hf] at IN
        have FN : Hid (fitN (C i) = false ∧ cntZ C i ≤ wh) := ⟨hf, hc⟩
        go_wp2_with fail
        with_reducible refine (IN.out _).mono ?_
        rintro e w2 ⟨rfl, hb⟩
        have F2 : Hid (Below w.heap.size w w2 ∧ Blank w2 w.heap.size) := ⟨HP.out.2.1.trans (hb.mono HP.out.2.1.size), HP.out.2.2.keep hb⟩
        clear hb IN hf gA
        go_wp2
        go_roundg (n - (i + 1))
        case measure => have := HK.out; omega
        case rel =>
          refine ⟨i + 1, rfl, by omega, ?_, by go_num, ?_, pkZ_unfit HP.out.1 FN.out.1, F2.out⟩
          · rw [CN.out, FN.out.1]; rfl
          · rw [CN.out, FN.out.1]; exact FN.out.2
      | true =>
        rw [hf] at IN
        have FN : Hid (fitN (C i) = true ∧ cntZ C i ≤ wh) := ⟨hf, hc⟩
        go_wp2_with fail
        with_reducible refine (IN.out _).mono ?_
        rintro e w2 ⟨rfl, hb⟩
        have F2 : Hid (Below w.heap.size w w2 ∧ Blank w2 w.heap.size) := ⟨HP.out.2.1.trans (hb.mono HP.out.2.1.size), HP.out.2.2.keep hb⟩
        have gB := (KD.out w2 F2.out.1 i (by omega)).2
        clear hb IN hf gA
        by_cases he : cntZ C i = wh
        · have HE : Hid (pkZ C wh (i + 1) = some (C i)) := pkZ_here HP.out.1 FN.out.1 he
          have he' : ((wh : Int) - (cntZ C i : Nat)) = 0 := by omega
          have gR0 := F2.out.2.1.all4
          have fR0 := F2.out.2.2.all4
          clear CN
          generalize cntZ C i = ct at *
          go_wp2
          have hm := pkZ_mono HE.out (n - (i + 1))
          rw [show i + 1 + (n - (i + 1)) = n by omega] at hm
          have e1 : (pkZ C wh n).getD 0 = C i := by rw [hm]; rfl
          have e2 : (pkZ C wh n).isSome = true := by rw [hm]; rfl
          have fin := fun v0 v1 v2 v3 => ((((S.Off.refl w.heap.size w2).setCell (i := 0) v0).setCell (i := 1) v1).setCell (i := 2) v2).setCell (i := 3) v3
          have fb := fun v0 v1 v2 v3 => F2.out.1.trans ((fin v0 v1 v2 v3).below (B := w.heap.size) F2.out.1.size (Nat.le_refl _))
          simp [bodyPost, results, Tryz.results67, go_sem, gR0, e1, e2]
          exact fb _ _ _ _
        · have HE : Hid (pkZ C wh (i + 1) = none) := pkZ_other HP.out.1 he
          have he' : ¬ ((wh : Int) - (cntZ C i : Nat)) = 0 := by omega
          clear gB
          obtain ⟨ct, ect⟩ : ∃ ct, ct = cntZ C i := ⟨_, rfl⟩
          rw [← ect] at he he' hc ⊢
          rw [← ect] at CN FN
          clear ect
          go_wp2
          go_roundg (n - (i + 1))
          case measure => have := HK.out; omega
          case rel =>
            refine ⟨i + 1, rfl, by omega, ?_, by go_num, ?_, HE.out, F2.out⟩
            · rw [CN.out, FN.out.1]
              go_num
            · rw [CN.out, FN.out.1]
              show ct + 1 ≤ wh
              omega
end Go.Proofs.YtncpjgpioajbeaaGreatDoor

import Derived.Test.YtagcbcmbojggkaaDoorFList
namespace Go.Proofs.YtagcbcmbojggkaaDoor
open Go.RowKit Go.Sort

set_option maxHeartbeats 4000000 in
theorem products_any {m c : Int} (hf : Fit m c) {L : List Int} (hl : L.length ≤ 65536) (hN : ∀ i, i < L.length → Num (L.getD i 0)) {a : Option Addr} {g o cap : Nat} (ha : L = [] ∨ a = some ⟨g, o, none⟩) (w : World) (hI : Nms w g o L) (hg : g < w.heap.size) :
    Calls Tryd.prog 9 #[.agg #[.int .u64 (l0 m), .int .u64 (l1 m), .int .u64 (l2 m), .int .u64 (l3 m), .int .u64 (l0 c), .int .u64 (l1 c), .int .u64 (l2 c), .int .u64 (l3 c)], .slice a L.length cap] w fun e w' => ∃ b, e = .returned (.tuple #[.slice (some ⟨b, 0, none⟩) L.length L.length, .agg #[.int .u64 (l0 (preN m L L.length)), .int .u64 (l1 (preN m L L.length)), .int .u64 (l2 (preN m L L.length)), .int .u64 (l3 (preN m L L.length))]]) ∧ w.heap.size ≤ b ∧ Own4 w' b (aheadL m L L.length) ∧ Below w.heap.size w w' := by
  obtain ⟨i0, hi, hz0, hz1, hz2⟩ := info_parts info_num
  have HL : Hid (L.length ≤ 65536) := hl
  have HA : Hid (L = [] ∨ a = some ⟨g, o, none⟩) := ha
  clear ha
  have one : Word 1 := ⟨by decide, by decide⟩
  clear hl
  go_enter Tryd.func9, Tryd.ntmps9
  go_wp2_with (first
    | (at_make; refine wpList_make_nums _ rfl _ _ 22 rfl 25 i0 _ Tryd.underlying22 hi hz0 hz1 hz2 .i64 .i64 _ _ L.length rfl rfl (by omega) (by omega) HL.out ?_))
  clear hi hz0 hz1 hz2 i0
  refine calls_world (fun W => Below w.heap.size w W ∧ HoldM W w.heap.size m c ∧ Nms W g o L ∧ Blank W (w.heap.size + 1) ∧ Own4 W (w.heap.size + 1 + 1) (aheadL m L 0)) ⟨by repeat (first | with_reducible exact Below.refl _ _ | with_reducible refine Below.alloc ?_ (by first | omega | (simp; done) | (simp; omega)) _), ((HoldM.new w m c _).alloc _).alloc _, ((hI.alloc _).alloc _).alloc _, (Blank.new (by simp)).alloc _, ?_⟩ ?_
  · have := Own4.new ((w.alloc (.cells #[.int .u64 (l0 m), .int .u64 (l1 m), .int .u64 (l2 m), .int .u64 (l3 m), .int .u64 (l0 c), .int .u64 (l1 c), .int .u64 (l2 c), .int .u64 (l3 c)] 35)).alloc (.cells #[.int .u64 0, .int .u64 0, .int .u64 0, .int .u64 0] 25)) L.length 25
    simp at this
    simpa [aheadL] using this
  rintro W ⟨B, hF, hI, hR, hA⟩
  have o1 : w.heap.size ≤ w.heap.size + 1 := by omega
  have o2 : w.heap.size ≤ w.heap.size + 1 + 1 := by omega
  have n1 : w.heap.size + 1 + 1 ≠ w.heap.size := by omega
  have n2 : w.heap.size + 1 + 1 ≠ w.heap.size + 1 := by omega
  have ng : w.heap.size + 1 + 1 ≠ g := by omega
  generalize w.heap.size + 1 + 1 = ba at *
  generalize w.heap.size + 1 = br at *
  with_reducible refine (from_any one W).mono ?_
  rintro e w1 ⟨rfl, hb⟩
  replace B := B.trans (hb.mono B.size)
  replace hF := hF.keep hb; replace hI := hI.keep hb; replace hR := hR.keep hb; replace hA := hA.keep hb
  clear hb W
  go_wp2_with fail
  have c0 : w1.heap.size ≠ w.heap.size := by have := hF.lt; omega
  have c1 : w1.heap.size ≠ br := by have := hR.1.lt (by simp); omega
  have c2 : w1.heap.size ≠ ba := by have := hA.lt; omega
  have o3 : w.heap.size ≤ w1.heap.size := B.size
  have ngp : w1.heap.size ≠ g := by omega
  refine wp_world (fun W => Below w.heap.size w W ∧ HoldM W w.heap.size m c ∧ Nms W g o L ∧ Blank W br ∧ Own4 W ba (aheadL m L 0) ∧ Var W w1.heap.size (preN m L 0)) ⟨B.alloc B.size _, hF.alloc _, hI.alloc _, hR.alloc _, hA.alloc _, Var.new rfl⟩ ?_
  clear B hF hI hR hA
  rintro W ⟨B, hF, hI, hR, hA, hP⟩
  generalize w1.heap.size = bp at *
  go_loopg [16] L.length (fun k iv wr => ∃ i : Nat, k = L.length - i ∧ i ≤ L.length ∧ iv = .int .i64 (i : Int) ∧ Below w.heap.size w wr ∧ HoldM wr w.heap.size m c ∧ Nms wr g o L ∧ Blank wr br ∧ Own4 wr ba (aheadL m L i) ∧ Var wr bp (preN m L i))
  case atStart => exact ⟨0, rfl, Nat.zero_le _, rfl, B, hF, hI, hR, hA, hP⟩
  case round =>
    clear B hF hI hR hA hP W
    obtain ⟨i, hk, hi, rfl, B, hF, hI, hR, hA, hP⟩ := hrel
    have HK : Hid (gk = L.length - i ∧ i ≤ L.length) := ⟨hk, hi⟩
    clear hk hi
    by_cases hz : i = L.length
    · have hzl : ¬ i < L.length := by omega
      have HZ : Hid (i = L.length) := hz
      clear hz
      have gP := hP.1.cells; have gR := hR.1.all4; have fR := hR.2.all4
      go_wp2
      repeat (go_region; go_wp2)
      have he := HZ.out
      subst he
      simp [bodyPost, results, Tryd.results9, go_sem, gR]
      exact ⟨o2, hA.set4 (k := 0) n2.symm _ _ _ _, (below_set4 B o1 _ _ _ _).drew⟩
    · have hlt : i < L.length := by have := HK.out.2; omega
      obtain rfl : a = some ⟨g, o, none⟩ := by
        rcases HA.out with h | h
        · rw [h] at hlt; simp at hlt
        · exact h
      have gI := hI i hlt
      have la := aheadL_len m L HK.out.2
      have gA := hA.1 i (by rw [la]; exact hlt)
      simp only [Nat.zero_add] at gA
      have fA0 : wr.frozen? ⟨ba, i * 4, none⟩ = false := hA.2.1 _ (by rw [la]; omega)
      have fA1 : wr.frozen? ⟨ba, i * 4 + 1, none⟩ = false := hA.2.1 _ (by rw [la]; omega)
      have fA2 : wr.frozen? ⟨ba, i * 4 + 2, none⟩ = false := hA.2.1 _ (by rw [la]; omega)
      have fA3 : wr.frozen? ⟨ba, i * 4 + 3, none⟩ = false := hA.2.1 _ (by rw [la]; omega)
      have nx := hN i hlt
      have ex : Hid (preN m L (i + 1) = modN m (preN m L i * L.getD i 0)) := rfl
      have es : Hid ((aheadL m L i).set i (preN m L i) = aheadL m L (i + 1) ∧ i < (aheadL m L i).length) := ⟨aheadL_set m L hlt, by rw [la]; exact hlt⟩
      have np := preN_Num hf L i
      have gP := hP.1.cells; have gF := hF.cells
      have lP : bp < wr.heap.size := hP.1.row.lt (by simp)
      have lA : ba < wr.heap.size := hA.lt
      have lF : w.heap.size < wr.heap.size := hF.lt
      have na : ba ≠ bp := fun h => c2 h.symm
      have na' : bp ≠ ba := c2
      generalize (aheadL m L i).getD i 0 = av at gA
      generalize L.getD i 0 = xv at gI ex nx
      clear hz la
      have MM : Hid (∀ w, Calls Tryd.prog 11 #[.agg #[.int .u64 (l0 m), .int .u64 (l1 m), .int .u64 (l2 m), .int .u64 (l3 m), .int .u64 (l0 c), .int .u64 (l1 c), .int .u64 (l2 c), .int .u64 (l3 c)], .agg #[.int .u64 (l0 (preN m L i)), .int .u64 (l1 (preN m L i)), .int .u64 (l2 (preN m L i)), .int .u64 (l3 (preN m L i))], .agg #[.int .u64 (l0 xv), .int .u64 (l1 xv), .int .u64 (l2 xv), .int .u64 (l3 xv)]] w fun e w' => e = .returned (.agg #[.int .u64 (l0 (preN m L (i + 1))), .int .u64 (l1 (preN m L (i + 1))), .int .u64 (l2 (preN m L (i + 1))), .int .u64 (l3 (preN m L (i + 1)))]) ∧ Below w.heap.size w w') := fun w => by
        have := fmul_any hf np nx w; rw [← ex.out] at this; exact this
      clear ex nx np
      go_wp2_with fail
      refine calls_world (fun W => Below w.heap.size w W ∧ HoldM W w.heap.size m c ∧ Nms W g o L ∧ Blank W br ∧ Own4 W ba (aheadL m L (i + 1)) ∧ Var W bp (preN m L i)) ⟨?_, (hF.setAt n1 _ _ _ _).alloc _, (hI.set4 ng _ _ _ _).alloc _, (hR.setAt n2 _ _ _ _).alloc _, ?_, (hP.setAt na _ _ _ _).alloc _⟩ ?_
      · exact ((((B.setCell o2 _).setCell o2 _).setCell o2 _).setCell o2 _).alloc (by have := B.size; simp; omega) _
      · rw [← es.out.1]; exact (hA.sets es.out.2 _).alloc _
      clear B hF hI hR hA hP gI gA fA0 fA1 fA2 fA3 gP gF lP lA lF es
      rintro W ⟨B, hF, hI, hR, hA, hP⟩
      with_reducible refine (MM.out _).mono ?_
      rintro e w3 ⟨rfl, hb⟩
      replace B := B.trans (hb.mono B.size)
      replace hF := hF.keep hb; replace hI := hI.keep hb; replace hR := hR.keep hb; replace hA := hA.keep hb; replace hP := hP.keep hb
      clear hb MM W
      have gP := hP.1.cells; have fP := hP.2.all4
      have hi6 : (i : Int) < 65536 := by have := HL.out; omega
      go_wp2
      go_roundg (L.length - (i + 1))
      case measure => have := HK.out.1; omega
      case rel => exact ⟨i + 1, rfl, hlt, by go_num, below_set4 B o3 _ _ _ _, hF.set4 c0 _ _ _ _, hI.set4 (k := 0) ngp _ _ _ _, hR.set4 c1 _ _ _ _, hA.set4 (k := 0) c2 _ _ _ _, hP.sets _⟩
end Go.Proofs.YtagcbcmbojggkaaDoor

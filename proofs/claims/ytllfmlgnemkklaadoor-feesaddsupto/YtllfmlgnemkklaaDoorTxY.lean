import Derived.Test.YtllfmlgnemkklaaDoorTxX
/- Layer 15: the blobs' hashes, the authorizations' parities. -/
namespace Go.Proofs.YtllfmlgnemkklaaDoor
open Go.RowKit Go.Sort
open tq
def badB (X : List Int) : Bool := !decide (X.getD 0 0 = 1)
def badU (u : Aun) : Bool := decide (255 < u.pa)
set_option maxRecDepth 100000 in
theorem isNoBlob_any {X : List Int} (h : X.length = 32) (w : World) :
    Calls Tryd.prog 40 #[.agg (hC X).toArray] w fun e w' => e = .returned (.bool (badB X)) ∧ Below w.heap.size w w' := by
  have g : ∀ t, (w.alloc (.cells (hC X).toArray t)).cell? ⟨w.heap.size, 0, none⟩ = some (.int .u8 (X.getD 0 0)) := fun t => by
    rw [World.cell?_alloc_mark]
    simp [hC, List.getD, show 0 < X.length by omega]
  have e : (X.getD 0 0 != 1) = badB X := by
    unfold badB
    by_cases c : X.getD 0 0 = 1
    · rw [c]; rfl
    · rw [decide_eq_false c]; exact bne_iff_ne.2 c
  rw [← e]
  generalize X.getD 0 0 = x at *
  clear h e
  generalize hC X = M at *
  go_enter Tryd.func40, Tryd.ntmps40
  go_wp2
  simp [bodyPost, results, Tryd.results40, go_sem]
  repeat (first | with_reducible exact Below.refl _ _ | with_reducible refine Below.drew ?_ | with_reducible refine Below.alloc ?_ (by first | omega | (simp; done) | (simp; omega)) _)
set_option maxRecDepth 100000 in
theorem isParityWide_any {u : Aun} (h : u.adr.length = 20) (w : World) :
    Calls Tryd.prog 25 #[.agg (aunC u).toArray] w fun e w' => e = .returned (.bool (badU u)) ∧ Below w.heap.size w w' := by
  have g : ∀ t, (w.alloc (.cells (aunC u).toArray t)).cell? ⟨w.heap.size, 25, none⟩ = some (.int .u64 u.pa) := fun t => by
    rw [World.cell?_alloc_mark]
    have : (aunC u)[25]? = some (.int .u64 u.pa) := by
      unfold aunC hC
      rw [List.getElem?_append_right (by simp)]
      simp only [List.length_cons, List.length_nil]
      rw [List.getElem?_append_right (by simp [h])]
      simp [h]
    simpa using this
  unfold badU
  generalize u.pa = x at *
  clear h
  generalize aunC u = M at *
  go_enter Tryd.func25, Tryd.ntmps25
  go_wp2
  simp [bodyPost, results, Tryd.results25, go_sem]
  repeat (first | with_reducible exact Below.refl _ _ | with_reducible refine Below.drew ?_ | with_reducible refine Below.alloc ?_ (by first | omega | (simp; done) | (simp; omega)) _)
theorem size_haT : (Tryd.prog.info? 67).map (·.size) = some 32 := by kernel_rfl
set_option maxRecDepth 100000 in
set_option maxHeartbeats 4000000 in
theorem index_ha {a : Option Addr} {b o c : Nat} {L : List (List Int)} (w : World) (hG : KsG w a b o c L) (hl : L.length < 1000000000) :
    Calls Tryd.prog 52 #[.slice a L.length c, .func (.func 40) #[] #[]] w fun e w' => ∃ r : Int, e = .returned (.int .i64 r) ∧ decide (0 ≤ r) = L.any badB ∧ Below w.heap.size w w' := by
  have HG : Hid (KsG w a b o c L) := hG
  have hl2 : (L.length : Int) < 1000000000 := by omega
  clear hG hl
  go_enter Tryd.func52, Tryd.ntmps52
  go_wp2_with fail
  go_loopg [5, 8] L.length (fun q x i wr => ∃ j : Nat, q = L.length - j ∧ j ≤ L.length ∧ i = .int .i64 (j : Int) ∧ (∀ n, n < j → badB (L.getD n []) = false) ∧ Below w.heap.size w wr)
  case atStart => exact ⟨0, rfl, Nat.zero_le _, rfl, fun n hn => absurd hn (Nat.not_lt_zero _), Below.refl _ _⟩
  case round =>
    obtain ⟨j, hq, hj, rfl, hno, hB⟩ := hrel
    have HN : Hid (gk = L.length - j ∧ ∀ n, n < j → badB (L.getD n []) = false) := ⟨hq, hno⟩
    have HB : Hid (Below w.heap.size w wr) := hB
    clear hq hno hB
    by_cases e : j = L.length
    · have dn : L.any badB = false := by
        rw [List.any_eq_false]
        intro x hx
        obtain ⟨n, hn, rfl⟩ := List.getElem_of_mem hx
        have := HN.out.2 n (by omega)
        rw [List.getD, List.getElem?_eq_getElem hn] at this
        simpa using this
      subst e
      go_wp2
      simp [bodyPost, results, Tryd.results52, go_sem, dn]
      exact HB.out
    · have hlt : j < L.length := by omega
      obtain rfl : a = some ⟨b, o, none⟩ := by
        rcases HG.out.2.1 with h | h
        · rw [h] at hlt; exact absurd hlt (Nat.not_lt_zero _)
        · exact h
      have rB : wr.rangeAt b (o + j * 32) (hC (L.getD j [])) := fun i v hv => cell_keep HB.out ((HG.out.2.2 j hlt).2 i v hv)
      have FC := fun W => isNoBlob_any (HG.out.2.2 j hlt).1.1 W
      have lC : (hC (L.getD j [])).length = 32 := by rw [hC, List.length_map]; exact (HG.out.2.2 j hlt).1.1
      have eX : L.getD j [] ∈ L := by rw [List.getD, List.getElem?_eq_getElem hlt]; exact List.getElem_mem hlt
      have EX : Hid (L.getD j [] ∈ L) := eX
      clear eX
      generalize hx : L.getD j [] = x at rB FC lC EX
      have HX : Hid (L.getD j [] = x) := hx
      have FCH : Hid (∀ W : World, Calls Tryd.prog 40 #[.agg (hC x).toArray] W fun e w' => e = .returned (.bool (badB x)) ∧ Below W.heap.size W w') := FC
      clear hx FC
      have sz : (Tryd.prog.info? 67).map (·.size) = some (hC x).length := by rw [lC]; exact size_haT
      clear lC
      have EB : Hid (badB x = badB x) := rfl
      generalize hM : hC x = M at *
      clear hM
      have j0 : (0 : Int) ≤ j := by omega
      have j1 : (j : Int) < L.length := by omega
      go_wp2_with (refine wpList_load_mid rfl 67 _ rfl b (o + j * 32) rfl M _ rB Tryd.underlying67 rfl sz ?_)
      refine (FCH.out _).mono ?_
      rintro e w3 ⟨rfl, hb⟩
      have B3 : Hid (Below w.heap.size w w3) := HB.out.trans (hb.mono HB.out.size)
      clear hb HB rB sz FCH EB
      generalize hz : badB x = zz
      have HZ : Hid (badB x = zz) := hz
      clear hz
      cases zz with
      | true =>
        have dn : L.any badB = true := List.any_eq_true.2 ⟨x, EX.out, HZ.out⟩
        go_wp2
        simp [bodyPost, results, Tryd.results52, go_sem, dn]
        exact B3.out
      | false =>
        go_wp2
        go_roundg (L.length - (j + 1))
        case measure => have := HN.out.1; omega
        case rel => exact ⟨j + 1, rfl, hlt, by go_num, fun n hn => by
          by_cases c : n = j
          · subst c; rw [HX.out]; exact HZ.out
          · exact HN.out.2 n (by omega), B3.out⟩
set_option maxRecDepth 100000 in
theorem contains_ha {a : Option Addr} {b o c : Nat} {L : List (List Int)} (w : World) (hG : KsG w a b o c L) (hl : L.length < 1000000000) :
    Calls Tryd.prog 39 #[.slice a L.length c, .func (.func 40) #[] #[]] w fun e w' => e = .returned (.bool (L.any badB)) ∧ Below w.heap.size w w' := by
  have IX := index_ha w hG hl
  go_enter Tryd.func39, Tryd.ntmps39
  go_wp2_with fail
  refine IX.mono ?_
  rintro e w1 ⟨r, rfl, hr, hb⟩
  have HR : Hid (L.any badB = decide (0 ≤ r)) := hr.symm
  clear hr IX
  go_wp2
  have hr := HR.out
  simp [bodyPost, results, Tryd.results39, go_sem, hr]
  exact hb
theorem size_auT : (Tryd.prog.info? 56).map (·.size) = some 34 := by kernel_rfl
set_option maxRecDepth 100000 in
set_option maxHeartbeats 4000000 in
theorem index_au {a : Option Addr} {b o c : Nat} {L : List (Aun)} (w : World) (hG : UsG w a b o c L) (hl : L.length < 1000000000) :
    Calls Tryd.prog 41 #[.slice a L.length c, .func (.func 25) #[] #[]] w fun e w' => ∃ r : Int, e = .returned (.int .i64 r) ∧ decide (0 ≤ r) = L.any badU ∧ Below w.heap.size w w' := by
  have HG : Hid (UsG w a b o c L) := hG
  have hl2 : (L.length : Int) < 1000000000 := by omega
  clear hG hl
  go_enter Tryd.func41, Tryd.ntmps41
  go_wp2_with fail
  go_loopg [5, 8] L.length (fun q x i wr => ∃ j : Nat, q = L.length - j ∧ j ≤ L.length ∧ i = .int .i64 (j : Int) ∧ (∀ n, n < j → badU (L.getD n zAun) = false) ∧ Below w.heap.size w wr)
  case atStart => exact ⟨0, rfl, Nat.zero_le _, rfl, fun n hn => absurd hn (Nat.not_lt_zero _), Below.refl _ _⟩
  case round =>
    obtain ⟨j, hq, hj, rfl, hno, hB⟩ := hrel
    have HN : Hid (gk = L.length - j ∧ ∀ n, n < j → badU (L.getD n zAun) = false) := ⟨hq, hno⟩
    have HB : Hid (Below w.heap.size w wr) := hB
    clear hq hno hB
    by_cases e : j = L.length
    · have dn : L.any badU = false := by
        rw [List.any_eq_false]
        intro x hx
        obtain ⟨n, hn, rfl⟩ := List.getElem_of_mem hx
        have := HN.out.2 n (by omega)
        rw [List.getD, List.getElem?_eq_getElem hn] at this
        simpa using this
      subst e
      go_wp2
      simp [bodyPost, results, Tryd.results41, go_sem, dn]
      exact HB.out
    · have hlt : j < L.length := by omega
      obtain rfl : a = some ⟨b, o, none⟩ := by
        rcases HG.out.2.1 with h | h
        · rw [h] at hlt; exact absurd hlt (Nat.not_lt_zero _)
        · exact h
      have rB : wr.rangeAt b (o + j * 34) (aunC (L.getD j zAun)) := fun i v hv => cell_keep HB.out ((HG.out.2.2 j hlt).2 i v hv)
      have FC := fun W => isParityWide_any (HG.out.2.2 j hlt).1.2.1.1 W
      have lC : (aunC (L.getD j zAun)).length = 34 := aunC_len (HG.out.2.2 j hlt).1.2.1.1
      have eX : L.getD j zAun ∈ L := by rw [List.getD, List.getElem?_eq_getElem hlt]; exact List.getElem_mem hlt
      have EX : Hid (L.getD j zAun ∈ L) := eX
      clear eX
      generalize hx : L.getD j zAun = x at rB FC lC EX
      have HX : Hid (L.getD j zAun = x) := hx
      have FCH : Hid (∀ W : World, Calls Tryd.prog 25 #[.agg (aunC x).toArray] W fun e w' => e = .returned (.bool (badU x)) ∧ Below W.heap.size W w') := FC
      clear hx FC
      have sz : (Tryd.prog.info? 56).map (·.size) = some (aunC x).length := by rw [lC]; exact size_auT
      clear lC
      have EB : Hid (badU x = badU x) := rfl
      generalize hM : aunC x = M at *
      clear hM
      have j0 : (0 : Int) ≤ j := by omega
      have j1 : (j : Int) < L.length := by omega
      go_wp2_with (refine wpList_load_mid rfl 56 _ rfl b (o + j * 34) rfl M _ rB Tryd.underlying56 rfl sz ?_)
      refine (FCH.out _).mono ?_
      rintro e w3 ⟨rfl, hb⟩
      have B3 : Hid (Below w.heap.size w w3) := HB.out.trans (hb.mono HB.out.size)
      clear hb HB rB sz FCH EB
      generalize hz : badU x = zz
      have HZ : Hid (badU x = zz) := hz
      clear hz
      cases zz with
      | true =>
        have dn : L.any badU = true := List.any_eq_true.2 ⟨x, EX.out, HZ.out⟩
        go_wp2
        simp [bodyPost, results, Tryd.results41, go_sem, dn]
        exact B3.out
      | false =>
        go_wp2
        go_roundg (L.length - (j + 1))
        case measure => have := HN.out.1; omega
        case rel => exact ⟨j + 1, rfl, hlt, by go_num, fun n hn => by
          by_cases c : n = j
          · subst c; rw [HX.out]; exact HZ.out
          · exact HN.out.2 n (by omega), B3.out⟩
set_option maxRecDepth 100000 in
theorem contains_au {a : Option Addr} {b o c : Nat} {L : List (Aun)} (w : World) (hG : UsG w a b o c L) (hl : L.length < 1000000000) :
    Calls Tryd.prog 24 #[.slice a L.length c, .func (.func 25) #[] #[]] w fun e w' => e = .returned (.bool (L.any badU)) ∧ Below w.heap.size w w' := by
  have IX := index_au w hG hl
  go_enter Tryd.func24, Tryd.ntmps24
  go_wp2_with fail
  refine IX.mono ?_
  rintro e w1 ⟨r, rfl, hr, hb⟩
  have HR : Hid (L.any badU = decide (0 ≤ r)) := hr.symm
  clear hr IX
  go_wp2
  have hr := HR.out
  simp [bodyPost, results, Tryd.results24, go_sem, hr]
  exact hb
set_option maxRecDepth 100000 in
theorem areBlobs_any {a : Option Addr} {b o c : Nat} {L : List (List Int)} (w : World) (hG : KsG w a b o c L) (hl : L.length < 1000000000) :
    Calls Tryd.prog 23 #[.slice a L.length c] w fun e w' => e = .returned (.bool (decide (L.length ≤ 4096) && !L.any badB)) ∧ Below w.heap.size w w' := by
  have CF := contains_ha w hG hl
  by_cases h : L.length ≤ 4096
  · have h1 : (L.length : Int) ≤ 4096 := by omega
    rw [decide_eq_true h, Bool.true_and]
    generalize L.any badB = z at *
    clear hG hl h
    go_enter Tryd.func23, Tryd.ntmps23
    go_wp2_with fail
    refine CF.mono ?_
    rintro e w1 ⟨rfl, hb⟩
    clear CF
    cases z
    all_goals (go_wp2; simp [bodyPost, results, Tryd.results23, go_sem]; exact hb)
  · have h1 : ¬ (L.length : Int) ≤ 4096 := by omega
    rw [decide_eq_false h, Bool.false_and]
    clear CF hG hl h
    go_enter Tryd.func23, Tryd.ntmps23
    go_wp2
    simp [bodyPost, results, Tryd.results23, go_sem]
    repeat (first | with_reducible exact Below.refl _ _ | with_reducible refine Below.drew ?_)
end Go.Proofs.YtllfmlgnemkklaaDoor

import Derived.Test.YtcjabligkeaafaaDoorBmQ
import Derived.BigFrame
import Derived.Test.YtcjabligkeaafaaDoorBmC
/- Has; the document's filters. -/
namespace Go.Proofs.YtcjabligkeaafaaDoor.S
open Go.RowKit Go.Sort

/-- Are all of a text's bits set? -/
noncomputable def hasT (F : List (BitVec 8)) (X : List (BitVec 8)) : Bool := tF F (plN X 0) && tF F (plN X 1) && tF F (plN X 2)

set_option maxRecDepth 100000 in
set_option maxHeartbeats 8000000 in
theorem has_any {p : Part} {F : List (BitVec 8)} (hF : F.length = 256) (hl : p.X.length < 140737488355328) (w : World) (hp : p.ok w) (hk : KtB w) :
    Calls Tryd.prog 6 #[.agg (byts F).toArray, p.val] w fun e w' => e = .returned (.bool (hasT F p.X)) ∧ Below w.heap.size w w' := by
  have HP : Hid (p.ok w ∧ KtB w ∧ p.X.length < 140737488355328 ∧ F.length = 256) := ⟨hp, hk, hl, hF⟩
  clear hp hk hl hF
  rw [Part.val]
  go_enter Tryd.func6, Tryd.ntmps6
  go_wp2_with fail
  refine calls_world (fun W => Below w.heap.size w W ∧ Blm W w.heap.size F) ⟨(Below.refl _ _).alloc (Nat.le_refl _) _, Blm.new HP.out.2.2.2 _ rfl⟩ ?_
  rintro W ⟨B, hF⟩
  have S1 : Hid (Below w.heap.size w W ∧ Blm W w.heap.size F) := ⟨B, hF⟩
  have pc := places_any HP.out.2.2.1 W (HP.out.1.keep B) (HP.out.2.1.keep B)
  rw [Part.val] at pc
  clear B hF
  refine pc.mono ?_
  clear pc
  rintro e w2 ⟨rfl, hb⟩
  have S2 : Hid (Below w.heap.size w w2 ∧ Blm w2 w.heap.size F) := ⟨S1.out.1.trans (hb.mono S1.out.1.size), S1.out.2.keep hb⟩
  clear hb S1
  have IX : Hid (∀ i : Nat, i < 3 → ∀ w, (Instr.index 43 (.agg (vals (plI p.X 3)).toArray) (.int .i64 (i : Int))).run Tryd.prog w = .ok (.int .i64 (plN p.X i : Int)) w) := fun i hi w => by
    have h := index_places (T := plI p.X 3) rfl hi w
    rw [h]
    match i, hi with
    | 0, _ => rfl
    | 1, _ => rfl
    | 2, _ => rfl
  generalize (vals (plI p.X 3)).toArray = PV at *
  have PL : Hid (∀ i, (0 : Int) ≤ (plN p.X i : Int) ∧ (plN p.X i : Int) < 2048) := fun i => by have := plN_lt p.X i; omega
  go_wp2_with fail
  go_loopg [9] 3 (fun k iv wr => ∃ i : Nat, k = 3 - i ∧ i ≤ 3 ∧ iv = .int .i64 i ∧ (∀ k, k < i → tF F (plN p.X k) = true) ∧ Below w.heap.size w wr ∧ Blm wr w.heap.size F)
  case atStart => exact ⟨0, rfl, by decide, rfl, fun k hk => absurd hk (Nat.not_lt_zero _), S2.out.1, S2.out.2⟩
  case round =>
    clear S2
    obtain ⟨i, hk, hi, rfl, ev, B, hF⟩ := hrel
    have HK : Hid (gk = 3 - i) := hk
    have EV : Hid (∀ k, k < i → tF F (plN p.X k) = true) := ev
    have SR : Hid (Below w.heap.size w wr ∧ Blm wr w.heap.size F) := ⟨B, hF⟩
    clear hk B hF ev
    by_cases h8 : i = 3
    · subst h8
      have e : hasT F p.X = true := by rw [hasT, EV.out 0 (by decide), EV.out 1 (by decide), EV.out 2 (by decide)]; rfl
      have E : Hid (hasT F p.X = true) := e
      clear e
      go_wp2
      simp [bodyPost, results, Tryd.results6, go_sem]
      exact ⟨E.out, SR.out.1⟩
    · have hlt : (i : Int) < 3 := by omega
      have st := isSet_any (PL.out i).1 (PL.out i).2 wr SR.out.2
      rw [Int.toNat_natCast] at st
      have ix := IX.out i (by omega)
      obtain ⟨tb, ht⟩ : ∃ tb, tb = tF F (plN p.X i) := ⟨_, rfl⟩
      have HT : Hid (tb = tF F (plN p.X i)) := ht
      rw [← ht] at st
      have ST : Hid (Calls Tryd.prog 10 #[.pointer (some ⟨w.heap.size, 0, none⟩), .int .i64 (plN p.X i : Int)] wr fun e w' => e = .returned (.bool tb) ∧ Below wr.heap.size wr w') := st
      clear st ht
      have H3 : Hid (i < 3) := show i < 3 by omega
      clear h8
      generalize (plN p.X i : Int) = y at *
      cases tb with
      | true =>
        go_wp2_with fail
        refine ST.out.mono ?_
        rintro e w4 ⟨rfl, hb⟩
        have N4 : Hid (Below w.heap.size w w4 ∧ Blm w4 w.heap.size F) := ⟨SR.out.1.trans (hb.mono SR.out.1.size), SR.out.2.keep hb⟩
        clear hb SR ST ix
        go_wp2
        go_roundg (3 - (i + 1))
        case measure => have := HK.out; omega
        case rel =>
          refine ⟨i + 1, rfl, by omega, by go_num, fun k hk => ?_, N4.out⟩
          by_cases e : k = i
          · rw [e]; exact HT.out.symm
          · exact EV.out k (by omega)
      | false =>
        go_wp2_with fail
        refine ST.out.mono ?_
        rintro e w4 ⟨rfl, hb⟩
        have N4 : Hid (Below w.heap.size w w4) := SR.out.1.trans (hb.mono SR.out.1.size)
        have e : hasT F p.X = false := by
          have h := HT.out
          have h3 := H3.out
          rw [hasT]
          match i, h3, h with
          | 0, _, h => rw [← h]; rfl
          | 1, _, h => rw [← h, Bool.and_false]; rfl
          | 2, _, h => rw [← h, Bool.and_false]
        have E : Hid (hasT F p.X = false) := e
        clear hb SR ST ix e
        go_wp2
        simp [bodyPost, results, Tryd.results6, go_sem]
        exact ⟨E.out, N4.out⟩
end Go.Proofs.YtcjabligkeaafaaDoor.S

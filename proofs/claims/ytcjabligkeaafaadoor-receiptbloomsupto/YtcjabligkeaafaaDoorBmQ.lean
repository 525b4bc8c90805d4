import Derived.Test.YtcjabligkeaafaaDoorBmP
/- Add, Of. -/
namespace Go.Proofs.YtcjabligkeaafaaDoor.S
open Go.RowKit Go.Sort

theorem plL_lt {X : List (BitVec 8)} {x : Nat} (h : x ∈ plL X) : x < 2048 := by
  simp [plL] at h
  rcases h with h | h | h <;> rw [h] <;> exact plN_lt _ _

set_option maxRecDepth 100000 in
set_option maxHeartbeats 8000000 in
theorem add_any {p : Part} {F : List (BitVec 8)} (hF : F.length = 256) (hl : p.X.length < 140737488355328) (w : World) (hp : p.ok w) (hk : KtB w) :
    Calls Tryd.prog 8 #[.agg (byts F).toArray, p.val] w fun e w' => e = .returned (.agg (byts (setsF F (plL p.X))).toArray) ∧ Below w.heap.size w w' := by
  have HP : Hid (p.ok w ∧ KtB w ∧ p.X.length < 140737488355328 ∧ F.length = 256) := ⟨hp, hk, hl, hF⟩
  clear hp hk hl hF
  rw [Part.val]
  go_enter Tryd.func8, Tryd.ntmps8
  go_wp2_with (refine wpList_alloc_zero rfl 28 rfl _ zero_bloom ?_)
  refine calls_world (fun W => Below w.heap.size w W ∧ Blm W w.heap.size F ∧ Blm W (w.heap.size + 1) zF) ⟨((Below.refl _ _).alloc (Nat.le_refl _) _).alloc (by simp) _, (Blm.new HP.out.2.2.2 _ rfl).alloc _, Blm.new zF_len _ (by simp)⟩ ?_
  rintro W ⟨B, hF, hR⟩
  have S1 : Hid (Below w.heap.size w W ∧ Blm W w.heap.size F ∧ Blm W (w.heap.size + 1) zF) := ⟨B, hF, hR⟩
  have pc := places_any HP.out.2.2.1 W (HP.out.1.keep B) (HP.out.2.1.keep B)
  rw [Part.val] at pc
  clear B hF hR
  refine pc.mono ?_
  clear pc
  rintro e w2 ⟨rfl, hb⟩
  have S2 : Hid (Below w.heap.size w w2 ∧ Blm w2 w.heap.size F ∧ Blm w2 (w.heap.size + 1) zF) := ⟨S1.out.1.trans (hb.mono S1.out.1.size), S1.out.2.1.keep hb, S1.out.2.2.keep hb⟩
  have c1 : w.heap.size + 1 ≠ w.heap.size := by omega
  clear hb S1
  have IX : Hid (∀ i : Nat, i < 3 → ∀ w, (Instr.index 43 (.agg (vals (plI p.X 3)).toArray) (.int .i64 (i : Int))).run Tryd.prog w = .ok (.int .i64 (plN p.X i : Int)) w) := fun i hi w => by
    have h := index_places (T := plI p.X 3) rfl hi w
    rw [h]
    match i, hi with
    | 0, _ => rfl
    | 1, _ => rfl
    | 2, _ => rfl
  generalize (vals (plI p.X 3)).toArray = PV at *
  have o1 : w.heap.size ≤ w.heap.size + 1 := by omega
  generalize w.heap.size + 1 = br at *
  have LS : Hid (∀ i, (setsF F ((plL p.X).take i)).length = 256) := fun i => setsF_len _ HP.out.2.2.2
  have NS : Hid (setsF F ((plL p.X).take 0) = F ∧ (∀ i, i < 3 → setF (setsF F ((plL p.X).take i)) (plN p.X i) = setsF F ((plL p.X).take (i + 1))) ∧ setsF F ((plL p.X).take 3) = setsF F (plL p.X)) := ⟨rfl, fun i hi => by match i, hi with | 0, _ => rfl | 1, _ => rfl | 2, _ => rfl, rfl⟩
  have PL : Hid (∀ i, (0 : Int) ≤ (plN p.X i : Int) ∧ (plN p.X i : Int) < 2048) := fun i => by have := plN_lt p.X i; omega
  go_wp2_with fail
  go_loopg [9] 3 (fun k iv wr => ∃ i : Nat, k = 3 - i ∧ i ≤ 3 ∧ iv = .int .i64 i ∧ Below w.heap.size w wr ∧ Blm wr w.heap.size (setsF F ((plL p.X).take i)) ∧ Blm wr br zF)
  case atStart => exact ⟨0, rfl, by decide, rfl, S2.out.1, S2.out.2.1, S2.out.2.2⟩
  case round =>
    clear S2
    obtain ⟨i, hk, hi, rfl, B, hF, hR⟩ := hrel
    have HK : Hid (gk = 3 - i) := hk
    have SR : Hid (Below w.heap.size w wr ∧ Blm wr w.heap.size (setsF F ((plL p.X).take i)) ∧ Blm wr br zF) := ⟨B, hF, hR⟩
    clear hk B hF hR
    by_cases h8 : i = 3
    · subst h8
      have hS := SR.out.2.1
      rw [NS.out.2.2] at hS
      have rb := hS.range
      have ic := size_bloom hS.1
      have ia := size_bloomA hS.1
      have oc := one_byts (setsF F (plL p.X))
      obtain ⟨N, hN⟩ : ∃ N, N = byts (setsF F (plL p.X)) := ⟨_, rfl⟩
      have HN : Hid (N = byts (setsF F (plL p.X)) ∧ N.length = 256) := ⟨hN, by rw [hN, byts_len]; exact hS.1⟩
      rw [← hN] at rb ic ia oc
      have sz : N.toArray.size = 256 := by simp [HN.out.2]
      have tr : wr.there br 0 N.toArray.size := by rw [sz]; exact SR.out.2.2.there
      have B' := SR.out.1
      clear SR hN hS
      go_wp2_with (first | refine wpList_load_mid rfl 28 _ rfl w.heap.size 0 rfl N _ rb Tryd.underlying28 rfl ic ?_ | refine wpList_store_mid rfl 28 _ _ rfl br 0 _ rfl rfl tr ia oc ?_)
      have ld := run_loadVar_mid (P := Tryd.prog) (wr.setCells br 0 N) br 0 28 N _ (World.rangeAt_setCells_same _ _ _ _ (by simpa using tr)) Tryd.underlying28 rfl ic
      refine bodyPost_ret (v := .agg N.toArray) ?_ rfl ⟨by rw [HN.out.1], below_setCells o1 N 0 wr B'⟩
      simp [results, Tryd.results8, Act.put, asAddr, ld]
    · have hlt : (i : Int) < 3 := by omega
      have st := set_int (PL.out i).1 (PL.out i).2 wr SR.out.2.1
      rw [Int.toNat_natCast, NS.out.2.1 i (by omega)] at st
      have ST : Hid (Calls Tryd.prog 13 #[.pointer (some ⟨w.heap.size, 0, none⟩), .int .i64 (plN p.X i : Int)] wr fun e w' => e = .returned (.tuple #[]) ∧ Blm w' w.heap.size (setsF F ((plL p.X).take (i + 1))) ∧ Off w.heap.size wr w') := st
      clear st
      have ix := IX.out i (by omega)
      clear h8
      generalize (plN p.X i : Int) = y at *
      go_wp2_with fail
      refine ST.out.mono ?_
      rintro e w4 ⟨rfl, h4, o4⟩
      have N4 : Hid (Below w.heap.size w w4 ∧ Blm w4 w.heap.size (setsF F ((plL p.X).take (i + 1))) ∧ Blm w4 br zF) := ⟨SR.out.1.trans (o4.below SR.out.1.size (Nat.le_refl _)), h4, SR.out.2.2.off o4 c1⟩
      clear h4 o4 SR ST ix
      go_wp2
      go_roundg (3 - (i + 1))
      case measure => have := HK.out; omega
      case rel => exact ⟨i + 1, rfl, by omega, by go_num, N4.out⟩
end Go.Proofs.YtcjabligkeaafaaDoor.S

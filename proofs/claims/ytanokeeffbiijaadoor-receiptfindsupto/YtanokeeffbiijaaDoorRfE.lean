import Derived.Test.YtanokeeffbiijaaDoorRfD
/- waybillref17.Find. -/
namespace Go.Proofs.YtanokeeffbiijaaDoor.tq
open Go.RowKit Go.Sort
set_option maxRecDepth 100000 in
set_option maxHeartbeats 16000000 in
theorem rfind_any {a aa ak : Option Addr} {b o c ba oa ca bk ok ck : Nat} {ls : List Lg} {As : List (List Int)} {L : List Kl} (hF : BdF As L) (hL : BdLs ls) (w : World) (hG : LsG w a b o c ls) (hA : AsG w aa ba oa ca As) (hK : KssG w ak bk ok ck L) :
    Calls Tryd.prog 9 #[.slice a ls.length c, .slice aa As.length ca, .slice ak L.length ck] w fun e w' => ∃ v, e = .returned v ∧ OwN w.heap.size w' v (fnd As L ls ls.length) ∧ Below w.heap.size w w' := by
  obtain ⟨n, hn⟩ : ∃ n, n = ls.length := ⟨_, rfl⟩
  have n1 : (n : Int) < 1000000000 := by have := hL.1; omega
  have HG : Hid ((∀ W, Below w.heap.size w W → LsG W a b o c ls) ∧ ls.length = n ∧ n < 1000000000) := ⟨fun W B => hG.keep B, hn.symm, by omega⟩
  have TA : Hid (∀ i, i < n → ∀ W, Below w.heap.size w W → Calls Tryd.prog 19 #[.agg (lgC (ls.getD i zLg)).toArray, .slice aa As.length ca, .slice ak L.length ck] W fun e w' => e = .returned (.bool (logTk As L (ls.getD i zLg))) ∧ Below W.heap.size W w') := fun i hi W B => rtakes_any hF (hL.2 i (by omega)).1 W ((hG.2.2 i (by omega)).1.keep B) (hA.keep B) (hK.keep B)
  have HN : Hid (∀ i, i < n → (lgC (ls.getD i zLg)).length = 22) := fun i hi => lgC_len (hG.2.2 i (by omega)).1.adr.1
  rw [← hn]
  clear hF hL hG hA hK hn
  go_enter Tryd.func9, Tryd.ntmps9
  go_wp2_with fail
  go_loopg [7, 8] n (fun kk lv iv wr => ∃ i : Nat, kk = n - i ∧ i ≤ n ∧ iv = .int .i64 (i : Int) ∧ OwN w.heap.size wr lv (fnd As L ls i) ∧ Below w.heap.size w wr)
  case atStart => exact ⟨0, rfl, Nat.zero_le _, rfl, World.ownsRow_nil _ _ _ _, Below.refl _ _⟩
  case round =>
    obtain ⟨i, hk, hi, rfl, hown, B⟩ := hrel
    have HK : Hid (gk = n - i) := hk
    have HO : Hid (OwN w.heap.size wr u7 (fnd As L ls i)) := hown
    have BB : Hid (Below w.heap.size w wr) := B
    clear hk hown B
    by_cases h8 : i = n
    · subst h8
      go_wp2
      simp [bodyPost, results, Tryd.results9, go_sem]
      exact ⟨HO.out, BB.out⟩
    · have hlt : i < n := by omega
      have hlt' : (i : Int) < (n : Int) := by omega
      obtain rfl : a = some ⟨b, o, none⟩ := (HG.out.1 _ BB.out).cons (by have := HG.out.2.1; omega)
      have R1 : Hid (wr.rangeAt b (o + i * 22) (lgC (ls.getD i zLg)) ∧ (lgC (ls.getD i zLg)).length = 22) := ⟨((HG.out.1 _ BB.out).2.2 i (by have := HG.out.2.1; omega)).2, HN.out i hlt⟩
      have TAi := TA.out i hlt
      have FY : Hid (logTk As L (ls.getD i zLg) = true → fnd As L ls (i + 1) = fnd As L ls i ++ [(i : Int)]) := fun h => fnd_yes h
      have FN : Hid (logTk As L (ls.getD i zLg) = false → fnd As L ls (i + 1) = fnd As L ls i) := fun h => fnd_no h
      clear TA hi h8 HN
      generalize lgC (ls.getD i zLg) = cs at *
      generalize logTk As L (ls.getD i zLg) = lk at *
      have TC : Hid (∀ W, Below w.heap.size w W → Calls Tryd.prog 19 #[.agg cs.toArray, .slice aa As.length ca, .slice ak L.length ck] W fun e w' => e = .returned (.bool lk) ∧ Below W.heap.size W w') := TAi
      clear TAi
      go_wp2_with (first
        | (refine wpList_load_mid rfl _ _ rfl b (o + i * 22) rfl cs _ R1.out.1 Tryd.underlying44 rfl (by rw [R1.out.2]; exact size_lg) ?_)
        | fail)
      with_reducible refine (TC.out wr BB.out).mono ?_
      rintro e w2 ⟨rfl, hb⟩
      have B2 : Hid (Below w.heap.size w w2 ∧ Below wr.heap.size wr w2) := ⟨BB.out.trans (hb.mono BB.out.size), hb⟩
      clear hb R1 TC
      cases lk with
      | false =>
        have NX : Hid (fnd As L ls i = fnd As L ls (i + 1)) := (FN.out rfl).symm
        go_wp2
        go_roundg (n - (i + 1))
        case measure => have := HK.out; omega
        case rel => exact ⟨i + 1, rfl, by omega, by go_num, NX.out ▸ HO.out.keep B2.out.2, B2.out.1⟩
      | true =>
        have NX : Hid (fnd As L ls (i + 1) = fnd As L ls i ++ [(i : Int)]) := FY.out rfl
        have FL : Hid ((fnd As L ls i).length ≤ i) := fnd_len _
        go_wp2_with (at_builtin; (refine wpList_append_rw (B := w.heap.size) (n := (fnd As L ls i).length) (v := u7) (xs := vN (fnd As L ls i)) (g := w2.heap.size) (p := 0) (m := 1) (news := [.int .i64 (i : Int)]) 1 8 31 3 Tryd.underlying31 rI_n (by decide) rfl _ _ rfl rfl rfl ((HO.out.keep B2.out.2).alloc (.cells #[.int .i64 (i : Int)] 3)) rfl (.inr rfl) (fun e => by cases e) new_range (fun x hx => by simp at hx; subst hx; rfl) (by have := FL.out; unfold maxLen; omega) (by have := FL.out; omega) (by have := B2.out.1.size; rw [World.size_alloc]; omega) ?_); (intro v' w3 o3 g3 p3); (have B3 : Below w.heap.size w w3 := (B2.out.1.alloc B2.out.1.size _).grown g3 (by have := B2.out.1.size; rw [World.size_alloc]; omega) (fun k hk => ((HO.out.keep B2.out.2).lt k hk).1)); (have HO3 : Hid (OwN w.heap.size w3 v' (fnd As L ls i ++ [(i : Int)]) ∧ Below w.heap.size w w3) := ⟨by unfold OwN; rw [List.length_append, vN_app]; exact o3, B3⟩); clear o3 g3 p3 B3)
        go_roundg (n - (i + 1))
        case measure => have := HK.out; omega
        case rel => exact ⟨i + 1, rfl, by omega, by go_num, NX.out ▸ HO3.out.1, HO3.out.2⟩
end Go.Proofs.YtanokeeffbiijaaDoor.tq

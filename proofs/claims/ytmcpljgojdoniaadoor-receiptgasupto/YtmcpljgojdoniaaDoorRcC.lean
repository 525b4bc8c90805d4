import Derived.Test.YtmcpljgojdoniaaDoorRcB
/- receipt.Gas, the document's Gas. -/
namespace Go.Proofs.YtmcpljgojdoniaaDoor.tq
open Go.RowKit Go.Sort
theorem gasP_step {acc : List Int} {last u : Int} {us : List Int} {r : Option (List Int)} (h : gasP acc last (u :: us) = r) (c : ¬ u < last) : gasP (acc ++ [u - last]) u us = r := by
  rw [gasP, if_neg c] at h; exact h
theorem gasP_stop {acc : List Int} {last u : Int} {us : List Int} {r : Option (List Int)} (h : gasP acc last (u :: us) = r) (c : u < last) : r = none := by
  rw [gasP, if_pos c] at h; exact h.symm
theorem gasE_none {us : List Int} (h : none = gasP [] 0 us) : gasE us = 172 ∧ gasL us = [] := by unfold gasE gasL; rw [← h]; exact ⟨rfl, rfl⟩
theorem gasE_some {us L : List Int} (h : some L = gasP [] 0 us) : gasE us = 0 ∧ gasL us = L := by unfold gasE gasL; rw [← h]; exact ⟨rfl, rfl⟩
theorem set_padV {L : List Int} {x : Int} : ∀ {R : List Value} {n : Nat}, R.length = n + 1 → ∃ R' : List Value, R'.length = n ∧ (v6 L ++ R).set L.length (.int .u64 x) = v6 (L ++ [x]) ++ R'
  | v :: R', n, h => ⟨R', by simpa using h, by rw [← v6_len L, List.set_append_right _ _ (Nat.le_refl _), Nat.sub_self, List.set_cons_zero, v6_app, List.append_assoc]; rfl⟩
set_option maxRecDepth 100000 in
set_option maxHeartbeats 8000000 in
theorem gas_any {a : Option Addr} {b o c : Nat} {us : List Int} (hl : us.length < 4000000000) (w : World) (hG : UsR w a b o c us) :
    Calls Tryd.prog 7 #[.slice a us.length c] w fun e w' => ∃ v, e = .returned (.tuple #[v, .int .i64 (gasE us)]) ∧ OwG w.heap.size w' v (gasL us) ∧ Below w.heap.size w w' := by
  obtain ⟨n, hn⟩ : ∃ n, n = us.length := ⟨_, rfl⟩
  have HG : Hid (UsR w a b o c us ∧ us.length = n ∧ n < 4000000000) := ⟨hG, hn.symm, by omega⟩
  rw [← hn]
  obtain ⟨E, hE⟩ : ∃ E, E = gasE us := ⟨_, rfl⟩
  obtain ⟨LL, hL⟩ : ∃ L, L = gasL us := ⟨_, rfl⟩
  have HE : Hid (E = gasE us ∧ LL = gasL us) := ⟨hE, hL⟩
  rw [← hE, ← hL]
  clear hG hl hn hE hL
  go_enter Tryd.func7, Tryd.ntmps7
  go_wp2_with (refine wpList_make_row (k := 1) (bytes := 8) w Tryd.underlying32 rI_6 rfl _ _ rfl _ _ _ _ n rfl rfl rfl rfl (by have := HG.out.2.2; omega) (by have := HG.out.2.2; omega) ?_; intro cs hcs)
  have own0 := World.ownsRow_lit (base := w.heap.size) (e := 25) (size := 1) w cs n (Nat.le_refl _) (by have := HG.out.2.2; unfold maxLen; omega) hcs
  have B0 : Below w.heap.size w (w.alloc (.cells cs 25)) := (Below.refl _ _).alloc (Nat.le_refl _) _
  have lc : cs.toList.length = n := by simpa using hcs
  generalize cs.toList = xs at *
  generalize w.alloc (.cells cs 25) = W1 at *
  clear hcs cs
  go_loopg [5, 13] n (fun k av iv wr => ∃ (i : Nat) (done : List Int) (R : List Value) (last : Int), k = n - i ∧ i ≤ n ∧ iv = .int .i64 (i : Int) ∧ av = .int .u64 last ∧ Word last ∧ done.length = i ∧ R.length = n - i ∧ gasP done last (us.drop i) = gasP [] 0 us ∧ wr.ownsRow w.heap.size 25 1 (.slice (some ⟨w.heap.size, 0, none⟩) n n) n (v6 done ++ R) ∧ Below w.heap.size w wr)
  case atStart => exact ⟨0, [], xs, 0, rfl, Nat.zero_le _, rfl, rfl, ⟨by decide, by decide⟩, rfl, lc, rfl, own0, B0⟩
  case round =>
    clear own0 B0 lc xs W1
    obtain ⟨i, done, R, last, hk, hi, rfl, rfl, hw, hd, hR, hP, hown, B⟩ := hrel
    have HK : Hid (gk = n - i ∧ done.length = i ∧ R.length = n - i ∧ gasP done last (us.drop i) = gasP [] 0 us) := ⟨hk, hd, hR, hP⟩
    have HO : Hid (wr.ownsRow w.heap.size 25 1 (.slice (some ⟨w.heap.size, 0, none⟩) n n) n (v6 done ++ R) ∧ Below w.heap.size w wr) := ⟨hown, B⟩
    clear hk hd hR hP hown B
    by_cases h8 : i = n
    · subst h8
      have hP := HK.out.2.2.2
      rw [List.drop_of_length_le (by rw [HG.out.2.1]; exact Nat.le_refl _), gasP] at hP
      obtain ⟨e1, e2⟩ := gasE_some hP
      have E0 : E = 0 := HE.out.1.trans e1
      have L0 : LL = done := HE.out.2.trans e2
      subst E0 L0
      have HR : Hid (OwG w.heap.size wr (.slice (some ⟨w.heap.size, 0, none⟩) i i) LL) := by
        have h := HO.out.1
        have hR0 : R = [] := List.eq_nil_of_length_eq_zero (by have := HK.out.2.2.1; omega)
        rw [hR0, List.append_nil] at h
        show wr.ownsRow _ _ _ _ _ _
        rw [HK.out.2.1]; exact h
      clear hP e1 e2 hi hw
      go_wp2
      simp [bodyPost, results, Tryd.results7, go_sem]
      exact ⟨HR.out, HO.out.2⟩
    · have hlt : i < n := by omega
      have hlt' : (i : Int) < (n : Int) := by omega
      obtain rfl : a = some ⟨b, o, none⟩ := by
        rcases HG.out.1.2.1 with h | h
        · have := HG.out.2.1; rw [h] at this; simp at this; omega
        · exact h
      have cu := ((HG.out.1.keep HO.out.2).2.2 i (by rw [HG.out.2.1]; exact hlt)).2
      have hu : Word (us.getD i 0) := (HG.out.1.2.2 i (by rw [HG.out.2.1]; exact hlt)).1
      have hP := HK.out.2.2.2
      rw [drop_getD (by rw [HG.out.2.1]; exact hlt)] at hP
      generalize us.getD i 0 = u at *
      obtain ⟨R', hR', eR⟩ := set_padV (L := done) (x := u - last) (R := R) (n := n - i - 1) (by have := HK.out.2.2.1; omega)
      have HS := HO.out.1.stored i (.int .u64 (u - last))
      have fz := HO.out.1.frozenAt i
      have ca := HO.out.1.cellAt i (by omega)
      by_cases cl : u < last
      · have e0 : none = gasP [] 0 us := (gasP_stop hP cl).symm
        obtain ⟨e1, e2⟩ := gasE_none e0
        have E0 : E = 172 := HE.out.1.trans e1
        have L0 : LL = [] := HE.out.2.trans e2
        subst E0 L0
        clear hP e0 e1 e2 eR hR' R' HS fz ca
        go_wp2
        simp [bodyPost, results, Tryd.results7, go_sem]
        exact ⟨World.ownsRow_nil _ _ _ _, HO.out.2⟩
      · have hP2 := gasP_step hP cl
        have c1 : decide (u < last) = false := by simp [cl]
        have su : IntKind.u64.wrap (u - last) = u - last := (by rw [IntKind.wrap_u64]; have := hu.2; have := hw.1; omega)
        obtain ⟨v0, hv0⟩ : ∃ v, (v6 done ++ R)[i]? = some v := ⟨_, List.getElem?_eq_getElem (by rw [List.length_append, v6_len]; have := HK.out.2.1; have := HK.out.2.2.1; omega)⟩
        rw [hv0] at ca
        have HN : Hid (R'.length = n - (i + 1) ∧ (done ++ [u - last]).length = i + 1 ∧ gasP (done ++ [u - last]) u (us.drop (i + 1)) = gasP [] 0 us ∧ (wr.setCell ⟨w.heap.size, i, none⟩ (.int .u64 (u - last))).ownsRow w.heap.size 25 1 (.slice (some ⟨w.heap.size, 0, none⟩) n n) n (v6 (done ++ [u - last]) ++ R') ∧ Below w.heap.size w (wr.setCell ⟨w.heap.size, i, none⟩ (.int .u64 (u - last)))) := ⟨by omega, by rw [List.length_append, HK.out.2.1]; rfl, hP2, by have h := HS.1; rw [← eR, HK.out.2.1]; exact h, HO.out.2.setCell (Nat.le_refl _) _⟩
        clear hP hP2 HS hR' eR hv0 HO
        go_wp2
        go_roundg (n - (i + 1))
        case measure => have := HK.out.1; omega
        case rel => exact ⟨i + 1, done ++ [u - last], R', u, rfl, by omega, (by have := HG.out.2.2; have e : wrap64 ((i : Int) + 1) = (i : Int) + 1 := (by unfold wrap64; omega); rw [e]; rfl), rfl, hu, HN.out.2.1, HN.out.1, HN.out.2.2.1, HN.out.2.2.2.1, HN.out.2.2.2.2⟩
set_option maxRecDepth 100000 in
set_option maxHeartbeats 8000000 in
theorem rgas_any {a : Option Addr} {b o c : Nat} {us : List Int} (hl : us.length < 4000000000) (w : World) (hG : UsR w a b o c us) :
    Calls Tryd.prog 8 #[.slice a us.length c] w fun e w' => ∃ v, e = .returned (.tuple #[v, .int .i64 (gasE us)]) ∧ OwG w.heap.size w' v (gasL us) ∧ Below w.heap.size w w' := by
  obtain ⟨n, hn⟩ : ∃ n, n = us.length := ⟨_, rfl⟩
  have HG : Hid (UsR w a b o c us ∧ us.length = n ∧ n < 4000000000) := ⟨hG, hn.symm, by omega⟩
  rw [← hn]
  obtain ⟨E, hE⟩ : ∃ E, E = gasE us := ⟨_, rfl⟩
  obtain ⟨LL, hL⟩ : ∃ L, L = gasL us := ⟨_, rfl⟩
  have HE : Hid (E = gasE us ∧ LL = gasL us) := ⟨hE, hL⟩
  rw [← hE, ← hL]
  clear hG hl hn hE hL
  go_enter Tryd.func8, Tryd.ntmps8
  go_wp2_with fail
  go_loopg [4, 5, 6] n (fun k av lv iv wr => ∃ (i : Nat) (done : List Int) (last : Int), k = n - i ∧ i ≤ n ∧ iv = .int .i64 (i : Int) ∧ lv = .int .u64 last ∧ Word last ∧ done.length = i ∧ gasP done last (us.drop i) = gasP [] 0 us ∧ OwG w.heap.size wr av done ∧ Below w.heap.size w wr)
  case atStart => exact ⟨0, [], 0, rfl, Nat.zero_le _, rfl, rfl, ⟨by decide, by decide⟩, rfl, rfl, World.ownsRow_nil _ _ _ _, Below.refl _ _⟩
  case round =>
    obtain ⟨i, done, last, hk, hi, rfl, rfl, hw, hd, hP, hown, B⟩ := hrel
    have HK : Hid (gk = n - i ∧ done.length = i ∧ gasP done last (us.drop i) = gasP [] 0 us) := ⟨hk, hd, hP⟩
    have HO : Hid (OwG w.heap.size wr u4 done ∧ Below w.heap.size w wr) := ⟨hown, B⟩
    clear hk hd hP hown B
    by_cases h8 : i = n
    · subst h8
      have hP := HK.out.2.2
      rw [List.drop_of_length_le (by rw [HG.out.2.1]; exact Nat.le_refl _), gasP] at hP
      obtain ⟨e1, e2⟩ := gasE_some hP
      have E0 : E = 0 := HE.out.1.trans e1
      have L0 : LL = done := HE.out.2.trans e2
      subst E0 L0
      clear hP e1 e2 hi hw
      go_wp2
      simp [bodyPost, results, Tryd.results8, go_sem]
      exact HO.out
    · have hlt : i < n := by omega
      have hlt' : (i : Int) < (n : Int) := by omega
      obtain rfl : a = some ⟨b, o, none⟩ := by
        rcases HG.out.1.2.1 with h | h
        · have := HG.out.2.1; rw [h] at this; simp at this; omega
        · exact h
      have cu := ((HG.out.1.keep HO.out.2).2.2 i (by rw [HG.out.2.1]; exact hlt)).2
      have hu : Word (us.getD i 0) := (HG.out.1.2.2 i (by rw [HG.out.2.1]; exact hlt)).1
      have hP := HK.out.2.2
      rw [drop_getD (by rw [HG.out.2.1]; exact hlt)] at hP
      have CU : Hid (∀ W, Below w.heap.size w W → W.cell? ⟨b, o + i * 293 + 35, none⟩ = some (.int .u64 (us.getD i 0))) := fun W B => ((HG.out.1.keep B).2.2 i (by rw [HG.out.2.1]; exact hlt)).2
      generalize us.getD i 0 = u at *
      by_cases cl : u < last
      · have e0 : none = gasP [] 0 us := (gasP_stop hP cl).symm
        obtain ⟨e1, e2⟩ := gasE_none e0
        have E0 : E = 172 := HE.out.1.trans e1
        have L0 : LL = [] := HE.out.2.trans e2
        subst E0 L0
        clear hP e0 e1 e2
        go_wp2
        simp [bodyPost, results, Tryd.results8, go_sem]
        exact ⟨World.ownsRow_nil _ _ _ _, HO.out.2⟩
      · have hP2 := gasP_step hP cl
        have c1 : decide (u < last) = false := by simp [cl]
        have su : IntKind.u64.wrap (u - last) = u - last := by rw [IntKind.wrap_u64]; have := hu.2; have := hw.1; omega
        have HN : Hid ((done ++ [u - last]).length = i + 1 ∧ gasP (done ++ [u - last]) u (us.drop (i + 1)) = gasP [] 0 us) := ⟨by rw [List.length_append, HK.out.2.1]; rfl, hP2⟩
        clear hP hP2
        go_wp2_with (at_builtin; (refine wpList_append_rw (B := w.heap.size) (n := i) (v := u4) (xs := v6 done) (g := wr.heap.size) (p := 0) (m := 1) (news := [.int .u64 (u - last)]) 1 8 32 25 Tryd.underlying32 rI_6 (by decide) rfl _ _ rfl rfl rfl (by have h := HO.out.1.alloc (.cells #[.int .u64 (u - last)] 25); rw [HK.out.2.1] at h; exact h) rfl (.inr rfl) (fun e => by cases e) new_range (fun x hx => by simp at hx; subst hx; rfl) (by have := HG.out.2.2; unfold maxLen; omega) (by have := HG.out.2.2; omega) (by have := HO.out.2.size; rw [World.size_alloc]; omega) ?_); (intro v' w3 o3 g3 p3); (have B3 : Below w.heap.size w w3 := (HO.out.2.alloc HO.out.2.size _).grown g3 (by have := HO.out.2.size; rw [World.size_alloc]; omega) (fun k hk => (HO.out.1.lt k hk).1)); (have HO3 : Hid (OwG w.heap.size w3 v' (done ++ [u - last]) ∧ Below w.heap.size w w3) := ⟨by show w3.ownsRow _ _ _ _ _ _; rw [List.length_append, HK.out.2.1, v6_app]; exact o3, B3⟩); (have cu3 := CU.out w3 B3); (clear o3 g3 p3 B3 cu))
        go_roundg (n - (i + 1))
        case measure => have := HK.out.1; omega
        case rel => exact ⟨i + 1, done ++ [u - last], u, rfl, by omega, (by have := HG.out.2.2; have e : wrap64 ((i : Int) + 1) = (i : Int) + 1 := (by unfold wrap64; omega); rw [e]; rfl), rfl, hu, HN.out.1, HN.out.2, HO3.out.1, HO3.out.2⟩
end Go.Proofs.YtmcpljgojdoniaaDoor.tq

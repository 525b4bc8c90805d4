import Derived.Test.YtongiohdomacoaaAcI
/- Layer 14: AccessCounts. -/
namespace Go.Proofs.Ytongiohdomacoaa
open Go.RowKit Go.Sort

set_option maxRecDepth 100000 in
set_option maxHeartbeats 16000000 in
theorem acounts_any {a : Option Addr} {b o c : Nat} {L : List EE} {V' : Nat → Value} {x k : List Int} (hl : L.length ≤ 3000000000000) (hw : WfE L) (hy : KyL L) (ha : AzE a b o L) (hx : x.length = 20) (hk : k.length = 32) (w : World) (hE : Es w b o L V') :
    Calls Try.prog 3 #[.slice a L.length c, .agg (cB x).toArray, .agg (cB k).toArray] w fun e w' => e = .returned (.bool true) ∧ Below w.heap.size w w' := by
  have TWN : Hid (∀ W, Below w.heap.size w W → Calls Try.prog 4 #[.slice a L.length c] W fun e w' => ∃ V, e = .returned (.slice (some ⟨W.heap.size, 0, none⟩) L.length (L.length + 1)) ∧ Twn w' W.heap.size L V ∧ Below W.heap.size W w') := fun W B => twin_any hl hw hy ha W (hE.keep B)
  have CN : Hid (∀ W g V, Twn W g L V → Calls Try.prog 5 #[.slice (some ⟨g, 0, none⟩) L.length (L.length + 1)] W fun e w' => e = .returned (.tuple #[.int .i64 L.length, .int .i64 (cntE L L.length)]) ∧ Below W.heap.size W w') := fun W g V h => count_any hl hw (.inr rfl) W h.es
  have WM : Hid (∀ W g V, Twn W g L V → Calls Try.prog 6 #[.slice (some ⟨g, 0, none⟩) L.length (L.length + 1), .agg (cB x).toArray, .agg (cB k).toArray] W fun e w' => e = .returned (.tuple #[.bool (hA L x L.length), .bool (hK L x k L.length)]) ∧ Below W.heap.size W w') := fun W g V h => warm_any hl hw hy (.inr rfl) hx hk W h.es
  have RC : Hid (∀ W, Below w.heap.size w W → Calls Try.prog 7 #[.slice a L.length c] W fun e w' => e = .returned (.tuple #[.int .i64 L.length, .int .i64 (cntE L L.length)]) ∧ Below W.heap.size W w') := fun W B => rcount_any hl hw ha W (hE.keep B)
  have RW : Hid (∀ W, Below w.heap.size w W → Calls Try.prog 8 #[.slice a L.length c, .agg (cB x).toArray, .agg (cB k).toArray] W fun e w' => e = .returned (.tuple #[.bool (hA L x L.length), .bool (hK L x k L.length)]) ∧ Below W.heap.size W w') := fun W B => rwarm_any hl hw hy ha hx hk W (hE.keep B)
  have ST : Hid (∀ W g V, Below w.heap.size w W → Twn W g L V → Calls Try.prog 9 #[.slice (some ⟨g, 0, none⟩) L.length (L.length + 1), .slice a L.length c] W fun e w' => e = .returned (.bool true) ∧ Below W.heap.size W w') := fun W g V B h => still14_yes hl hw hy ha W h (hE.keep B)
  have ik : (Try.prog.info? 26).map (·.size) = some (cB k).length := by rw [cB_len, hk]; exact size_haE
  have ix : (Try.prog.info? 24).map (·.size) = some (cB x).length := by rw [cB_len, hx]; exact size_adE
  have IX : Hid (((Try.prog.info? 26).map (·.size) = some (cB k).length) ∧ (Try.prog.info? 24).map (·.size) = some (cB x).length) := ⟨ik, ix⟩
  clear hl hw ha hE hy hx hk ik ix
  generalize cntE L L.length = cnt at *
  generalize hA L x L.length = wa at *
  generalize hK L x k L.length = wk at *
  generalize cB x = cx at *
  generalize cB k = ck at *
  go_enter Try.func3, Try.ntmps3
  go_wp2_with fail
  refine calls_world (fun W => Below w.heap.size w W ∧ W.rangeAt w.heap.size 0 cx ∧ W.rangeAt (w.heap.size + 1) 0 ck) ⟨by repeat (first | with_reducible exact Below.refl _ _ | with_reducible refine Below.alloc ?_ (by first | omega | (simp; done) | (simp; omega)) _), rng_keep new_range ((Below.refl _ _).alloc (Nat.le_refl _) _), by have h := new_range (W := w.alloc (.cells cx.toArray 24)) (cs := ck) (t := 26); rw [World.size_alloc] at h; exact h⟩ ?_
  rintro W ⟨B, r0, r9⟩
  with_reducible refine (TWN.out W B).mono ?_
  rintro e w1 ⟨V, rfl, tw, hb⟩
  replace B := B.trans (hb.mono B.size)
  replace r0 := rng_keep r0 hb
  replace r9 := rng_keep r9 hb
  clear hb
  generalize W.heap.size = g at *
  go_wp2_with fail
  with_reducible refine (CN.out w1 g V tw).mono ?_
  rintro e w2 ⟨rfl, hb⟩
  replace B := B.trans (hb.mono B.size)
  replace r0 := rng_keep r0 hb
  replace r9 := rng_keep r9 hb
  replace tw := tw.keep hb
  clear hb
  go_wp2_with (first
    | (refine wpList_load_mid rfl _ _ rfl w.heap.size 0 rfl cx _ r0 Try.underlying24 rfl IX.out.2 ?_)
    | (refine wpList_load_mid rfl _ _ rfl (w.heap.size + 1) 0 rfl ck _ r9 Try.underlying26 rfl IX.out.1 ?_))
  with_reducible refine (WM.out w2 g V tw).mono ?_
  rintro e w3 ⟨rfl, hb⟩
  replace B := B.trans (hb.mono B.size)
  replace r0 := rng_keep r0 hb
  replace r9 := rng_keep r9 hb
  replace tw := tw.keep hb
  clear hb
  go_wp2_with fail
  with_reducible refine (RC.out w3 B).mono ?_
  rintro e w4 ⟨rfl, hb⟩
  replace B := B.trans (hb.mono B.size)
  replace r0 := rng_keep r0 hb
  replace r9 := rng_keep r9 hb
  replace tw := tw.keep hb
  clear hb
  go_wp2_with (first
    | (refine wpList_load_mid rfl _ _ rfl w.heap.size 0 rfl cx _ r0 Try.underlying24 rfl IX.out.2 ?_)
    | (refine wpList_load_mid rfl _ _ rfl (w.heap.size + 1) 0 rfl ck _ r9 Try.underlying26 rfl IX.out.1 ?_))
  with_reducible refine (RW.out w4 B).mono ?_
  rintro e w5 ⟨rfl, hb⟩
  replace B := B.trans (hb.mono B.size)
  replace tw := tw.keep hb
  clear hb r0 r9
  go_wp2_with fail
  with_reducible refine (ST.out w5 g V B tw).mono ?_
  rintro e w6 ⟨rfl, hb⟩
  replace B := B.trans (hb.mono B.size)
  clear hb
  go_wp2
  simp [bodyPost, results, Try.results3, go_sem]
  exact B
end Go.Proofs.Ytongiohdomacoaa

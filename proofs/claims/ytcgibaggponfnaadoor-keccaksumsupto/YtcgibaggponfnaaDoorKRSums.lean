import Derived.Test.YtcgibaggponfnaaDoorKJoined
namespace Go.Proofs.YtcgibaggponfnaaDoor
open Go.RowKit Go.Sort

/-- What a fresh row of bytes is as an argument. -/
theorem own_arg {B : Nat} {W : World} {v : Value} {X : List (BitVec 8)} (h : Own B W v X) : ∃ a g c, v = .slice a X.length c ∧ At a g 0 X ∧ (a = none → c = 0) ∧ Byo W g 0 X := by
  rcases h.2 with ⟨e, hx⟩ | ⟨g, cap, cur, e, _, _, hle, _⟩
  · have hx' : X = [] := List.length_eq_zero_iff.1 hx
    subst hx'
    exact ⟨none, 0, 0, e, .inl rfl, fun _ => rfl, fun i hi => absurd hi (Nat.not_lt_zero _)⟩
  · subst e
    refine ⟨_, g, cap, rfl, .inr rfl, (fun h => nomatch h), fun i hi => ?_⟩
    rw [Nat.zero_add, h.row.cellAt i (by omega)]
    simp [byts, List.getD, hi]

set_option maxHeartbeats 4000000 in
theorem rsum_any {a : Option Addr} {bp op cp : Nat} {PS : List Part} (hs : (catX PS).length < 1073741824) (hn : PS.length ≤ 1073741824) (ha : PS = [] ∨ a = some ⟨bp, op, none⟩) (hz : ∀ p ∈ PS, p.a = none → p.c = 0) (w : World) (hP : Prts w bp op PS) (ht : Tab w 2 turnsN) (hm : Lns w 1 marksN) :
    Calls Tryd.prog 21 #[.slice a PS.length cp] w fun e w' => e = .returned (digV 0 (catX PS)) ∧ Below w.heap.size w w' := by
  have HH : Hid (Prts w bp op PS ∧ Tab w 2 turnsN ∧ Lns w 1 marksN) := ⟨hP, ht, hm⟩
  have HC : Hid ((catX PS).length < 1073741824 ∧ PS.length ≤ 1073741824 ∧ (PS = [] ∨ a = some ⟨bp, op, none⟩) ∧ (∀ p ∈ PS, p.a = none → p.c = 0)) := ⟨hs, hn, ha, hz⟩
  clear hP ht hm hs ha hn hz
  go_enter Tryd.func21, Tryd.ntmps21
  go_wp2_with fail
  refine calls_world (fun W => Below w.heap.size w W ∧ Hsh W w.heap.size (List.replicate 32 0)) ⟨(Below.refl _ _).alloc (Nat.le_refl _) _, Hsh.zeros _ rfl⟩ ?_
  rintro W ⟨B, hR⟩
  have PP : Prts W bp op PS := fun i hi => by
    obtain ⟨h1, h2, h3, h4⟩ := HH.out.1 i hi
    exact ⟨by rw [B.cell (p := ⟨bp, op + i, none⟩) (World.block_lt_of_cell? w _ h1)]; exact h1, h2, h3, fun j hj => by rw [B.cell (World.block_lt_of_cell? w _ (h4 j hj))]; exact h4 j hj⟩
  refine (joined_any HC.out.1 HC.out.2.1 HC.out.2.2.1 HC.out.2.2.2 _ PP).mono ?_
  rintro e w5 ⟨v, rfl, ho, hb⟩
  obtain ⟨a2, g, c, rfl, hat, hc0, hby⟩ := own_arg ho
  have H5 : Hid (Below w.heap.size w w5 ∧ Hsh w5 w.heap.size (List.replicate 32 0) ∧ At a2 g 0 (catX PS) ∧ (a2 = none → c = 0) ∧ Byo w5 g 0 (catX PS)) := ⟨B.trans (hb.mono B.size), hR.keep hb, hat, hc0, hby⟩
  clear hb B hR PP ho hat hc0 hby
  go_wp2_with fail
  refine (rdigest_any 0 (by rw [Y_eq]; rfl) HC.out.1 H5.out.2.2.1 H5.out.2.2.2.1 _ H5.out.2.2.2.2 (HH.out.2.1.keep H5.out.1) (HH.out.2.2.keep H5.out.1)).mono ?_
  rintro e w6 ⟨rfl, hb⟩
  have H6 : Hid (Below w.heap.size w w6 ∧ Hsh w6 w.heap.size (List.replicate 32 0)) := ⟨H5.out.1.trans (hb.mono H5.out.1.size), H5.out.2.1.keep hb⟩
  clear hb H5
  rw [digV]
  have oc := one_byts (hashL (finL 0 (absb (List.replicate 25 0) 0 (catX PS)) (catX PS).length))
  have lN : (byts (hashL (finL 0 (absb (List.replicate 25 0) 0 (catX PS)) (catX PS).length))).length = 32 := by rw [byts_len, hashL_len]
  generalize hN : byts (hashL (finL 0 (absb (List.replicate 25 0) 0 (catX PS)) (catX PS).length)) = N at *
  have EN : Hid (byts (hashL (finL 0 (absb (List.replicate 25 0) 0 (catX PS)) (catX PS).length)) = N) := hN
  clear hN
  have sz : (N.toArray).size = 32 := by simp [lN]
  have tr : w6.there w.heap.size 0 (N.toArray).size := by rw [sz]; exact H6.out.2.there
  have HN : Hid (N.length = 32) := lN
  clear lN
  go_wp2_with (refine wpList_store_mid rfl 30 _ _ rfl w.heap.size 0 _ rfl rfl tr (by rw [sz]; kernel_rfl) oc ?_)
  have ld := run_loadVar_mid (P := Tryd.prog) (w6.setCells w.heap.size 0 N) w.heap.size 0 30 N _ (World.rangeAt_setCells_same _ _ _ _ (by simpa using tr)) Tryd.underlying30 rfl (by rw [HN.out]; kernel_rfl)
  refine bodyPost_ret (v := .agg N.toArray) ?_ rfl ⟨by rw [digV, EN.out], below_setCells (Nat.le_refl _) N 0 w6 H6.out.1⟩
  simp [results, Tryd.results21, Act.put, asAddr, ld]

set_option maxHeartbeats 4000000 in
theorem rsha_any {a : Option Addr} {bp op cp : Nat} {PS : List Part} (hs : (catX PS).length < 1073741824) (hn : PS.length ≤ 1073741824) (ha : PS = [] ∨ a = some ⟨bp, op, none⟩) (hz : ∀ p ∈ PS, p.a = none → p.c = 0) (w : World) (hP : Prts w bp op PS) (ht : Tab w 2 turnsN) (hm : Lns w 1 marksN) :
    Calls Tryd.prog 22 #[.slice a PS.length cp] w fun e w' => e = .returned (digV 1 (catX PS)) ∧ Below w.heap.size w w' := by
  have HH : Hid (Prts w bp op PS ∧ Tab w 2 turnsN ∧ Lns w 1 marksN) := ⟨hP, ht, hm⟩
  have HC : Hid ((catX PS).length < 1073741824 ∧ PS.length ≤ 1073741824 ∧ (PS = [] ∨ a = some ⟨bp, op, none⟩) ∧ (∀ p ∈ PS, p.a = none → p.c = 0)) := ⟨hs, hn, ha, hz⟩
  clear hP ht hm hs ha hn hz
  go_enter Tryd.func22, Tryd.ntmps22
  go_wp2_with fail
  refine calls_world (fun W => Below w.heap.size w W ∧ Hsh W w.heap.size (List.replicate 32 0)) ⟨(Below.refl _ _).alloc (Nat.le_refl _) _, Hsh.zeros _ rfl⟩ ?_
  rintro W ⟨B, hR⟩
  have PP : Prts W bp op PS := fun i hi => by
    obtain ⟨h1, h2, h3, h4⟩ := HH.out.1 i hi
    exact ⟨by rw [B.cell (p := ⟨bp, op + i, none⟩) (World.block_lt_of_cell? w _ h1)]; exact h1, h2, h3, fun j hj => by rw [B.cell (World.block_lt_of_cell? w _ (h4 j hj))]; exact h4 j hj⟩
  refine (joined_any HC.out.1 HC.out.2.1 HC.out.2.2.1 HC.out.2.2.2 _ PP).mono ?_
  rintro e w5 ⟨v, rfl, ho, hb⟩
  obtain ⟨a2, g, c, rfl, hat, hc0, hby⟩ := own_arg ho
  have H5 : Hid (Below w.heap.size w w5 ∧ Hsh w5 w.heap.size (List.replicate 32 0) ∧ At a2 g 0 (catX PS) ∧ (a2 = none → c = 0) ∧ Byo w5 g 0 (catX PS)) := ⟨B.trans (hb.mono B.size), hR.keep hb, hat, hc0, hby⟩
  clear hb B hR PP ho hat hc0 hby
  go_wp2_with fail
  refine (rdigest_any 1 (by rw [Y_eq]; rfl) HC.out.1 H5.out.2.2.1 H5.out.2.2.2.1 _ H5.out.2.2.2.2 (HH.out.2.1.keep H5.out.1) (HH.out.2.2.keep H5.out.1)).mono ?_
  rintro e w6 ⟨rfl, hb⟩
  have H6 : Hid (Below w.heap.size w w6 ∧ Hsh w6 w.heap.size (List.replicate 32 0)) := ⟨H5.out.1.trans (hb.mono H5.out.1.size), H5.out.2.1.keep hb⟩
  clear hb H5
  rw [digV]
  have oc := one_byts (hashL (finL 1 (absb (List.replicate 25 0) 0 (catX PS)) (catX PS).length))
  have lN : (byts (hashL (finL 1 (absb (List.replicate 25 0) 0 (catX PS)) (catX PS).length))).length = 32 := by rw [byts_len, hashL_len]
  generalize hN : byts (hashL (finL 1 (absb (List.replicate 25 0) 0 (catX PS)) (catX PS).length)) = N at *
  have EN : Hid (byts (hashL (finL 1 (absb (List.replicate 25 0) 0 (catX PS)) (catX PS).length)) = N) := hN
  clear hN
  have sz : (N.toArray).size = 32 := by simp [lN]
  have tr : w6.there w.heap.size 0 (N.toArray).size := by rw [sz]; exact H6.out.2.there
  have HN : Hid (N.length = 32) := lN
  clear lN
  go_wp2_with (refine wpList_store_mid rfl 30 _ _ rfl w.heap.size 0 _ rfl rfl tr (by rw [sz]; kernel_rfl) oc ?_)
  have ld := run_loadVar_mid (P := Tryd.prog) (w6.setCells w.heap.size 0 N) w.heap.size 0 30 N _ (World.rangeAt_setCells_same _ _ _ _ (by simpa using tr)) Tryd.underlying30 rfl (by rw [HN.out]; kernel_rfl)
  refine bodyPost_ret (v := .agg N.toArray) ?_ rfl ⟨by rw [digV, EN.out], below_setCells (Nat.le_refl _) N 0 w6 H6.out.1⟩
  simp [results, Tryd.results22, Act.put, asAddr, ld]

end Go.Proofs.YtcgibaggponfnaaDoor

import Derived.Test.YtncpjgpioajbeaaGreatDoorSRHa
import Derived.Test.YtncpjgpioajbeaaGreatDoorSRSumsLaw
namespace Go.Proofs.YtncpjgpioajbeaaGreatDoor.S
open Go.RowKit Go.Sort

theorem prts2 {W : World} {z : Obj} {b : Nat} {p q : Part} (hz : z = .cells #[p.val, q.val] 76) (e : b = W.heap.size) (hp : p.ok W) (hq : q.ok W) : Prts (W.alloc z) b 0 [p, q] := fun i hi => by
  subst hz e
  have B1 : Below W.heap.size W (W.alloc (.cells #[p.val, q.val] 76)) := (Below.refl _ _).alloc (Nat.le_refl _) _
  have : i = 0 ∨ i = 1 := by have : i < 2 := hi; omega
  rcases this with rfl | rfl
  · exact ⟨by rw [Nat.zero_add, World.cell?_alloc_mark]; rfl, hp.1, hp.2.1, hp.2.2.keep B1⟩
  · exact ⟨by rw [Nat.zero_add, World.cell?_alloc_mark]; rfl, hq.1, hq.2.1, hq.2.2.keep B1⟩
set_option maxRecDepth 100000 in
set_option maxHeartbeats 8000000 in
theorem rhmac_end {a : Option Addr} {bp op cp br gi ci go co : Nat} {PS : List Part} {I O : List (BitVec 8)} (hs : (catX PS).length < 1073730000) (hn : PS.length ≤ 1073730000) (ha : PS = [] ∨ a = some ⟨bp, op, none⟩) (w W : World)
    (hPK : ∀ W', Below w.heap.size w W' → Prts W' bp op PS) (hB : Below w.heap.size w W) (hR : Hsh W br (List.replicate 32 0)) (gr : w.heap.size ≤ br) (hI : Byo W gi 0 I) (lI : I.length = 64) (cI : 64 ≤ ci) (hO : Byo W go 0 O) (lO : O.length = 64) (cO : 64 ≤ co) (t0 t2 t3 t5 t6 t9 t10 t11 t12 t13 t14 t15 t16 t17 t18 t19 t20 t21 t22 t23 t24 t25 t26 t27 t28 t29 t30 t31 t32 t33 t34 t35 t36 t37 t38 t39 t40 t41 t42 t43 t44 t45 t46 t47 t48 t49 t50 t51 t52 t53 t54 t55 t56 t57 t58 t59 t60 : Value) :
    WpFrom Tryz.prog Tryz.f121 7 (bodyPost Tryz.prog Tryz.f121 fun e w' => e = .returned (.agg (byts (shaL (O ++ shaL (I ++ catX PS)))).toArray) ∧ Below w.heap.size w w') { tmps := #[t0, .slice a PS.length cp, t2, t3, .pointer (some ⟨br, 0, none⟩), t5, t6, .slice (some ⟨gi, 0, none⟩) 64 ci, .slice (some ⟨go, 0, none⟩) 64 co, t9, t10, t11, t12, t13, t14, t15, t16, t17, t18, t19, t20, t21, t22, t23, t24, t25, t26, t27, t28, t29, t30, t31, t32, t33, t34, t35, t36, t37, t38, t39, t40, t41, t42, t43, t44, t45, t46, t47, t48, t49, t50, t51, t52, t53, t54, t55, t56, t57, t58, t59, t60], defers := [] } W := by
  refine WpFrom.intro rfl ?_
  have HA : Hid ((catX PS).length < 1073730000 ∧ PS.length ≤ 1073730000 ∧ (PS = [] ∨ a = some ⟨bp, op, none⟩) ∧ (∀ W', Below w.heap.size w W' → Prts W' bp op PS)) := ⟨hs, hn, ha, hPK⟩
  have HI : Hid (I.length = 64 ∧ 64 ≤ ci ∧ O.length = 64 ∧ 64 ≤ co ∧ w.heap.size ≤ br) := ⟨lI, cI, lO, cO, gr⟩
  have HS : Hid (Below w.heap.size w W ∧ Hsh W br (List.replicate 32 0) ∧ Byo W gi 0 I ∧ Byo W go 0 O) := ⟨hB, hR, hI, hO⟩
  clear hs hn ha hPK hB hR gr hI lI cI hO lO cO
  refine wp_seq_k fun K0 kk => ?_
  have H0 : Hid _ := kk
  clear kk
  have hc := rjoined_any (cp := cp) (by have := HA.out.1; omega) (by have := HA.out.2.1; omega) HA.out.2.2.1 W (HA.out.2.2.2 W HS.out.1)
  go_wp2_with fail
  refine hc.mono ?_
  clear hc
  rintro e w1 ⟨v, rfl, ho, hb⟩
  obtain ⟨at_, gt, ct, rfl, zt, yt, lt⟩ := ho.liesH
  have H1 : Hid (Below w.heap.size w w1 ∧ Hsh w1 br (List.replicate 32 0) ∧ Byo w1 gi 0 I ∧ Byo w1 go 0 O ∧ At at_ gt 0 (catX PS) ∧ Byo w1 gt 0 (catX PS) ∧ (catX PS).length ≤ ct) := ⟨HS.out.1.trans (hb.mono HS.out.1.size), HS.out.2.1.keep hb, HS.out.2.2.1.keep hb, HS.out.2.2.2.keep hb, zt, yt, lt⟩
  clear hb ho zt yt lt HS
  go_wp2
  refine H0.out _ _ ?_
  clear H0
  obtain ⟨T, eT⟩ : ∃ T, T = catX PS := ⟨_, rfl⟩
  have HT : Hid (T = catX PS ∧ T.length < 1073730000) := ⟨eT, by rw [eT]; exact HA.out.1⟩
  rw [← eT] at H1 ⊢
  clear eT
  refine wp_seq_k fun K1 kk => ?_
  have H2 : Hid _ := kk
  clear kk
  go_wp2_with fail
  have hP2 : Prts (w1.alloc (.cells #[.slice (some ⟨gi, 0, none⟩) 64 ci, .slice at_ T.length ct] 76)) w1.heap.size 0 [⟨some ⟨gi, 0, none⟩, gi, 0, ci, I⟩, ⟨at_, gt, 0, ct, T⟩] :=
    prts2 (by rw [Part.val, Part.val]; show _ = Obj.cells #[.slice (some ⟨gi, 0, none⟩) I.length ci, _] _; rw [HI.out.1]) rfl ⟨.inr rfl, by show I.length ≤ ci; have := HI.out; omega, H1.out.2.2.1⟩ ⟨H1.out.2.2.2.2.1, H1.out.2.2.2.2.2.2, H1.out.2.2.2.2.2.1⟩
  have B1 : Below w1.heap.size w1 (w1.alloc (.cells #[.slice (some ⟨gi, 0, none⟩) 64 ci, .slice at_ T.length ct] 76)) := (Below.refl _ _).alloc (Nat.le_refl _) _
  have hc := rjoined_any (PS := [⟨some ⟨gi, 0, none⟩, gi, 0, ci, I⟩, ⟨at_, gt, 0, ct, T⟩]) (a := some ⟨w1.heap.size, 0, none⟩) (bp := w1.heap.size) (op := 0) (cp := 2) (by simp [catX]; have := HI.out; have := HT.out; omega) (by show 2 ≤ _; omega) (.inr rfl) _ hP2
  refine hc.mono ?_
  rintro e w2 ⟨v2, rfl, ho, hb⟩
  have ec : catX [⟨some ⟨gi, 0, none⟩, gi, 0, ci, I⟩, ⟨at_, gt, 0, ct, T⟩] = I ++ T := by simp [catX]
  obtain ⟨J, eJ⟩ : ∃ J, J = I ++ T := ⟨_, rfl⟩
  have HJ : Hid (J = I ++ T ∧ J.length < 1073740000) := ⟨eJ, by rw [eJ, List.length_append]; have := HI.out; have := HT.out; omega⟩
  rw [ec, ← eJ] at ho
  clear eJ
  obtain ⟨a2, g2, c2, rfl, z2, y2, l2⟩ := ho.liesH
  have H3 : Hid (Below w.heap.size w w2 ∧ Hsh w2 br (List.replicate 32 0) ∧ Byo w2 go 0 O) := ⟨(H1.out.1.trans (B1.mono H1.out.1.size)).trans (hb.mono (by have := H1.out.1.size; simp; omega)), (H1.out.2.1.keep B1).keep hb, (H1.out.2.2.2.1.keep B1).keep hb⟩
  have hd := rdig_any (a := a2) (bd := g2) (od := 0) (cd := c2) (X := J) HJ.out.2 l2 z2 w2 y2
  clear hc hP2 B1 hb ho z2 y2 l2 ec H1
  go_wp2_with fail
  with_reducible refine hd.mono ?_
  clear hd
  rintro e w3 ⟨rfl, hb⟩
  have lN : (byts (shaL J)).length = 32 := by rw [byts_len, shaL_len]
  have oc := one_byts (shaL J)
  obtain ⟨N, eN⟩ : ∃ N, N = byts (shaL J) := ⟨_, rfl⟩
  rw [← eN] at lN oc ⊢
  have LN : Hid (N.length = 32 ∧ N = byts (shaL J)) := ⟨lN, eN⟩
  clear eN lN
  have il3 : (Tryz.prog.info? 26).map (·.size) = some N.toArray.size := by rw [List.size_toArray, LN.out.1]; kernel_rfl
  have il : (Tryz.prog.info? 26).map (·.size) = some N.length := by rw [LN.out.1]; kernel_rfl
  have th := fun t => hash_new (W := w3) (t := t) LN.out.1
  have F3 : ∀ t, Hid ((Below w.heap.size w ((w3.alloc (.cells #[.int .u8 0, .int .u8 0, .int .u8 0, .int .u8 0, .int .u8 0, .int .u8 0, .int .u8 0, .int .u8 0, .int .u8 0, .int .u8 0, .int .u8 0, .int .u8 0, .int .u8 0, .int .u8 0, .int .u8 0, .int .u8 0, .int .u8 0, .int .u8 0, .int .u8 0, .int .u8 0, .int .u8 0, .int .u8 0, .int .u8 0, .int .u8 0, .int .u8 0, .int .u8 0, .int .u8 0, .int .u8 0, .int .u8 0, .int .u8 0, .int .u8 0, .int .u8 0] t)).setCells w3.heap.size 0 N) ∧ Hsh ((w3.alloc (.cells #[.int .u8 0, .int .u8 0, .int .u8 0, .int .u8 0, .int .u8 0, .int .u8 0, .int .u8 0, .int .u8 0, .int .u8 0, .int .u8 0, .int .u8 0, .int .u8 0, .int .u8 0, .int .u8 0, .int .u8 0, .int .u8 0, .int .u8 0, .int .u8 0, .int .u8 0, .int .u8 0, .int .u8 0, .int .u8 0, .int .u8 0, .int .u8 0, .int .u8 0, .int .u8 0, .int .u8 0, .int .u8 0, .int .u8 0, .int .u8 0, .int .u8 0, .int .u8 0] t)).setCells w3.heap.size 0 N) br (List.replicate 32 0) ∧ Byo ((w3.alloc (.cells #[.int .u8 0, .int .u8 0, .int .u8 0, .int .u8 0, .int .u8 0, .int .u8 0, .int .u8 0, .int .u8 0, .int .u8 0, .int .u8 0, .int .u8 0, .int .u8 0, .int .u8 0, .int .u8 0, .int .u8 0, .int .u8 0, .int .u8 0, .int .u8 0, .int .u8 0, .int .u8 0, .int .u8 0, .int .u8 0, .int .u8 0, .int .u8 0, .int .u8 0, .int .u8 0, .int .u8 0, .int .u8 0, .int .u8 0, .int .u8 0, .int .u8 0, .int .u8 0] t)).setCells w3.heap.size 0 N) go 0 O) ∧ ((w3.alloc (.cells #[.int .u8 0, .int .u8 0, .int .u8 0, .int .u8 0, .int .u8 0, .int .u8 0, .int .u8 0, .int .u8 0, .int .u8 0, .int .u8 0, .int .u8 0, .int .u8 0, .int .u8 0, .int .u8 0, .int .u8 0, .int .u8 0, .int .u8 0, .int .u8 0, .int .u8 0, .int .u8 0, .int .u8 0, .int .u8 0, .int .u8 0, .int .u8 0, .int .u8 0, .int .u8 0, .int .u8 0, .int .u8 0, .int .u8 0, .int .u8 0, .int .u8 0, .int .u8 0] t)).setCells w3.heap.size 0 N).rangeAt w3.heap.size 0 N) := fun t => by
    obtain ⟨h1, h2⟩ := hash_put (W := w3) (t := t) LN.out.1
    have h3 : Below w2.heap.size w2 ((w3.alloc (.cells #[.int .u8 0, .int .u8 0, .int .u8 0, .int .u8 0, .int .u8 0, .int .u8 0, .int .u8 0, .int .u8 0, .int .u8 0, .int .u8 0, .int .u8 0, .int .u8 0, .int .u8 0, .int .u8 0, .int .u8 0, .int .u8 0, .int .u8 0, .int .u8 0, .int .u8 0, .int .u8 0, .int .u8 0, .int .u8 0, .int .u8 0, .int .u8 0, .int .u8 0, .int .u8 0, .int .u8 0, .int .u8 0, .int .u8 0, .int .u8 0, .int .u8 0, .int .u8 0] t)).setCells w3.heap.size 0 N) := hb.trans (h1.mono hb.size)
    exact ⟨⟨H3.out.1.trans (h3.mono H3.out.1.size), H3.out.2.1.keep h3, H3.out.2.2.keep h3⟩, h2⟩
  clear hb H3
  go_wp2_with ((with_reducible refine wpList_store_at (ty := 26) w3.heap.size 0 N.toArray (th _) il3 oc ?_ ?_ ?_); rfl; rfl; refine wpList_world (fun W => (Below w.heap.size w W ∧ Hsh W br (List.replicate 32 0) ∧ Byo W go 0 O) ∧ W.rangeAt w3.heap.size 0 N) (F3 _).out ?_; clear F3 th; rintro W3 hW)
  have HW : Hid ((Below w.heap.size w W3 ∧ Hsh W3 br (List.replicate 32 0) ∧ Byo W3 go 0 O)) := hW.1
  have rb := hW.2
  refine H2.out _ _ ?_
  clear H2 hW oc il3
  generalize w3.heap.size = bi at *
  simp only [Act.put]
  go_wp2_with ((with_reducible refine wpList_load_at (ty := 26) bi 0 N _ rb Tryz.underlying26 ?_ il ?_ ?_); rfl; rfl; simp only [Act.put, List.setIfInBounds_toArray, List.set_cons_succ, List.set_cons_zero])
  have hbo : Hid (∀ w, Calls Tryz.prog 138 #[.agg N.toArray] w fun e w' => ∃ v, e = .returned v ∧ Own w.heap.size w' v (shaL J) ∧ Below w.heap.size w w') := fun w => by
    rw [LN.out.2]; exact rbytesOf_any (shaL_len J) w
  obtain ⟨D, eD⟩ : ∃ D, D = shaL J := ⟨_, rfl⟩
  have HD : Hid (D = shaL J ∧ D.length = 32) := ⟨eD, by rw [eD]; exact shaL_len J⟩
  rw [← eD] at hbo
  clear eD
  with_reducible refine (hbo.out W3).mono ?_
  clear hbo
  rintro e w4 ⟨v4, rfl, ho, hb⟩
  obtain ⟨a4, g4, c4, rfl, z4, y4, l4⟩ := ho.liesH
  have H4 : Hid (Below w.heap.size w w4 ∧ Hsh w4 br (List.replicate 32 0) ∧ Byo w4 go 0 O ∧ At a4 g4 0 D ∧ Byo w4 g4 0 D ∧ D.length ≤ c4) := ⟨HW.out.1.trans (hb.mono HW.out.1.size), HW.out.2.1.keep hb, HW.out.2.2.keep hb, z4, y4, l4⟩
  clear HW rb il LN hb ho z4 y4 l4
  go_wp2_with fail
  have hP4 : Prts (w4.alloc (.cells #[.slice (some ⟨go, 0, none⟩) 64 co, .slice a4 D.length c4] 76)) w4.heap.size 0 [⟨some ⟨go, 0, none⟩, go, 0, co, O⟩, ⟨a4, g4, 0, c4, D⟩] :=
    prts2 (by rw [Part.val, Part.val]; show _ = Obj.cells #[.slice (some ⟨go, 0, none⟩) O.length co, _] _; rw [HI.out.2.2.1]) rfl ⟨.inr rfl, by show O.length ≤ co; have := HI.out; omega, H4.out.2.2.1⟩ ⟨H4.out.2.2.2.1, H4.out.2.2.2.2.2, H4.out.2.2.2.2.1⟩
  have B4 : Below w4.heap.size w4 (w4.alloc (.cells #[.slice (some ⟨go, 0, none⟩) 64 co, .slice a4 D.length c4] 76)) := (Below.refl _ _).alloc (Nat.le_refl _) _
  have hc := rjoined_any (PS := [⟨some ⟨go, 0, none⟩, go, 0, co, O⟩, ⟨a4, g4, 0, c4, D⟩]) (a := some ⟨w4.heap.size, 0, none⟩) (bp := w4.heap.size) (op := 0) (cp := 2) (by simp [catX]; have := HI.out; have := HD.out; omega) (by show 2 ≤ _; omega) (.inr rfl) _ hP4
  refine hc.mono ?_
  rintro e w5 ⟨v5, rfl, ho, hb⟩
  have ec : catX [⟨some ⟨go, 0, none⟩, go, 0, co, O⟩, ⟨a4, g4, 0, c4, D⟩] = O ++ D := by simp [catX]
  obtain ⟨G, eG⟩ : ∃ G, G = O ++ D := ⟨_, rfl⟩
  have HGG : Hid (G = O ++ D ∧ G.length < 1073740000) := ⟨eG, by rw [eG, List.length_append]; have := HI.out; have := HD.out; omega⟩
  rw [ec, ← eG] at ho
  clear eG
  obtain ⟨a5, g5, c5, rfl, z5, y5, l5⟩ := ho.liesH
  have H5 : Hid (Below w.heap.size w w5 ∧ Hsh w5 br (List.replicate 32 0)) := ⟨(H4.out.1.trans (B4.mono H4.out.1.size)).trans (hb.mono (by have := H4.out.1.size; simp; omega)), (H4.out.2.1.keep B4).keep hb⟩
  have hd := rdig_any (a := a5) (bd := g5) (od := 0) (cd := c5) (X := G) HGG.out.2 l5 z5 w5 y5
  clear hc hP4 B4 hb ho z5 y5 l5 ec H4
  go_wp2_with fail
  with_reducible refine hd.mono ?_
  clear hd
  rintro e w6 ⟨rfl, hb⟩
  have lN : (byts (shaL G)).length = 32 := by rw [byts_len, shaL_len]
  have oc := one_byts (shaL G)
  obtain ⟨M, eM⟩ : ∃ M, M = byts (shaL G) := ⟨_, rfl⟩
  rw [← eM] at lN oc ⊢
  have LM : Hid (M.length = 32 ∧ M = byts (shaL (O ++ shaL (I ++ T)))) := ⟨lN, by rw [eM, HGG.out.1, HD.out.1, HJ.out.1]⟩
  clear eM lN
  have il3 : (Tryz.prog.info? 26).map (·.size) = some M.toArray.size := by rw [List.size_toArray, LM.out.1]; kernel_rfl
  have il : (Tryz.prog.info? 26).map (·.size) = some M.length := by rw [LM.out.1]; kernel_rfl
  have H6 : Hid (Below w.heap.size w w6 ∧ Hsh w6 br (List.replicate 32 0)) := ⟨H5.out.1.trans (hb.mono H5.out.1.size), H5.out.2.keep hb⟩
  have tr : w6.there br 0 M.toArray.size := by rw [List.size_toArray, LM.out.1]; exact H6.out.2.there
  clear hb H5 HGG HD HJ HT HA
  go_wp2_with ((with_reducible refine wpList_store_at (ty := 26) br 0 M.toArray tr il3 oc ?_ ?_ ?_); rfl; rfl)
  have ld := run_loadVar_mid (P := Tryz.prog) (w6.setCells br 0 M) br 0 26 M _ (World.rangeAt_setCells_same _ _ _ _ (by simpa using tr)) Tryz.underlying26 rfl il
  refine bodyPost_ret (v := .agg M.toArray) ?_ rfl ⟨by rw [LM.out.2], below_setCells HI.out.2.2.2.2 M 0 w6 H6.out.1⟩
  simp [results, Tryz.results121, Act.put, asAddr, ld]
end Go.Proofs.YtncpjgpioajbeaaGreatDoor.S

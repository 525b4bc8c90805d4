import Derived.Test.YtmhcgjkemlcgoaaDoorMgC
import Derived.Deep.RegionHeld
import Derived.OrdersHeld
/- Personal of the program. -/
namespace Go.Proofs.YtmhcgjkemlcgoaaDoor
open Go.RowKit Go.Sort
/-- What stands ahead of a plain text's length. -/
def perI : List Int := [25, 69, 116, 104, 101, 114, 101, 117, 109, 32, 83, 105, 103, 110, 101, 100, 32, 77, 101, 115, 115, 97, 103, 101, 58, 10]
/-- What is signed of a text, and of one that is meant for a contract. -/
noncomputable def perM (X : List Int) : List Int := kecC (perI ++ (decI X.length ++ X))
noncomputable def intM (A X : List Int) : List Int := kecC ([25, 0] ++ (A ++ X))
theorem Bts.ptM {W : World} {g : Nat} {L : List Int} (h : Bts W g L) (hy : Bys L) : PtC.ok W ⟨some ⟨g, 0, none⟩, g, 0, L.length, L⟩ := ⟨.inr rfl, Nat.le_refl _, hy, fun i hi => by show W.cell? ⟨g, 0 + i, none⟩ = _; rw [Nat.zero_add]; exact h.1 i hi⟩
theorem allC_three (p q r : PtC) : allC [p, q, r] = p.X ++ (q.X ++ r.X) := by simp [allC]
theorem ptsC_three {W : World} {p q r : PtC} {v1 v2 v3 : Value} {g : Nat} {ty : TypeId} (e : g = W.heap.size) (e1 : v1 = p.val) (e2 : v2 = q.val) (e3 : v3 = r.val) (h1 : p.ok W) (h2 : q.ok W) (h3 : r.ok W) : PtsC (W.alloc (.cells #[v1, v2, v3] ty)) g 0 [p, q, r] := by
  subst e; subst e1; subst e2; subst e3
  have B : Below W.heap.size W (W.alloc (.cells #[p.val, q.val, r.val] ty)) := (Below.refl _ _).alloc (Nat.le_refl _) _
  have R := rangeBox (W := W) (M := [p.val, q.val, r.val]) (t := ty)
  rw [PtsC, PtsC, PtsC, PtsC]
  exact ⟨⟨R 0 _ rfl, h1.keep B⟩, ⟨R 1 _ rfl, h2.keep B⟩, ⟨R 2 _ rfl, h3.keep B⟩, trivial⟩
theorem itoaM {n : Nat} : Lib.itoa (n : Int) = Lib.decDigits n := by
  rw [Lib.itoa, if_neg (by omega), Int.toNat_natCast]
def TbM (W : World) : Prop := Lib.TabIs Tryd.prog W "internal/strconv.uint64pow10" .u64 Lib.pow10Tab
theorem TbM.keep {W W' : World} (h : TbM W) (hb : Below W.heap.size W W') : TbM W' := Go.Joins.tab_stays (g := 1) (by kernel_rfl) h hb (Nat.le_refl _)
theorem below_itoa (W : World) (k : Nat) (os : Array Obj) : Below W.heap.size W (grow (W.drewN k) os) := by
  refine ⟨rfl, rfl, rfl, by simp [grow, World.drewN], fun j hj => ?_⟩
  show (W.heap ++ os)[j]? = _
  rw [Array.getElem?_append_left hj]
theorem bysPer : Bys perI := by
  intro x hx
  have : perI.all (fun x => decide (0 ≤ x ∧ x < 256)) = true := by decide
  exact of_decide_eq_true (List.all_eq_true.1 this x hx)
set_option maxRecDepth 100000 in
set_option maxHeartbeats 8000000 in
theorem personal_any {X : List Int} {a : Option Addr} {b o c m : Nat} {D : List Value} (em : m = X.length) (hX : X.length ≤ 140737488351232) (eD : Hid (D = (perM X).map (Value.int .u8))) (w : World) (hp : PtC.ok w ⟨a, b, o, c, X⟩) (hk : KtC w) (ht : TbM w) :
    Calls Tryd.prog 5 #[.slice a m c] w fun e w' => e = .returned (.agg D.toArray) ∧ Below w.heap.size w w' := by
  have EM : Hid (m = X.length ∧ X.length ≤ 140737488351232) := ⟨em, hX⟩
  have m2 : (m : Int) ≤ 140737488351232 := by omega
  clear em hX
  go_enter Tryd.func5, Tryd.ntmps5
  go_wp2_with fail
  refine calls_world (fun W => Below w.heap.size w W ∧ KtC W ∧ TbM W ∧ Bts W w.heap.size (List.replicate 32 0) ∧ PtC.ok W ⟨a, b, o, c, X⟩) ⟨(Below.refl _ _).alloc (Nat.le_refl _) _, hk.alloc _, ht.keep ((Below.refl _ _).alloc (Nat.le_refl _) _), Bts.new (List.replicate 32 0) _ rfl, hp.keep ((Below.refl _ _).alloc (Nat.le_refl _) _)⟩ ?_
  rintro W ⟨B, hT, hTb, hR, hP⟩
  refine (Tryd.strconv_Itoa (m : Int) (by omega) (by omega) W hTb).mono ?_
  rintro e w1 ⟨rfl, k, os, rfl⟩
  have hb := below_itoa W k os
  rw [itoaM]
  generalize grow (W.drewN k) os = w1 at *
  replace B := B.trans (hb.mono B.size)
  replace hT := hT.keep hb
  replace hR := hR.keep (by simp) hb
  replace hP := hP.keep hb
  clear hb hTb W hp hk ht
  have HH : Hid (Below w.heap.size w w1 ∧ KtC w1 ∧ Bts w1 w.heap.size (List.replicate 32 0) ∧ PtC.ok w1 ⟨a, b, o, c, X⟩) := ⟨B, hT, hR, hP⟩
  clear B hT hR hP
  have KM : Hid (Lib.nDigits m ≤ 15) := nd_le (by omega)
  have eL : (Lib.decDigits m).length = (decI m).length := (List.length_map _).symm
  have CS : Hid (∀ W bq g g2 c2, Below w1.heap.size w1 W → PtsC W bq 0 [⟨some ⟨g, 0, none⟩, g, 0, 26, perI⟩, ⟨some ⟨g2, 0, none⟩, g2, 0, c2, decI m⟩, ⟨a, b, o, c, X⟩] → Calls Tryd.prog 12 #[.slice (some ⟨bq, 0, none⟩) 3 3] W fun e w' => e = .returned (.agg D.toArray) ∧ Below W.heap.size W w') := fun W bq g g2 c2 hb PT => by
    have SM := ksumC (ps := [⟨some ⟨g, 0, none⟩, g, 0, 26, perI⟩, ⟨some ⟨g2, 0, none⟩, g2, 0, c2, decI m⟩, ⟨a, b, o, c, X⟩]) (n := 3) (c := 3) rfl (by rw [allC_three]; simp only [List.length_append]; rw [decI_len]; have := KM.out; have := EM.out; have : perI.length = 26 := rfl; omega) (by show 3 ≤ 1000; decide) (Nat.le_refl 3) _ PT (HH.out.2.1.keep hb)
    rw [allC_three] at SM
    rw [eD.out, perM, ← EM.out.1]
    exact SM
  have kD : D.length = 32 := by rw [eD.out, List.length_map, perM, kecC_len]
  have oc : D.toArray.all (·.oneCell') = true := by rw [eD.out]; exact one_cells _
  have KD : Hid (D.length = 32) := kD
  have sz : D.toArray.size = 32 := by simp [kD]
  have dz : Hid (Bys (decI m)) := decI_bys m
  have eM : (m : Int) = ((X.length : Nat) : Int) := by rw [EM.out.1]
  have HB : Hid (∀ W, Below w1.heap.size w1 W → Below w.heap.size w W ∧ PtC.ok W ⟨a, b, o, c, X⟩ ∧ W.there w.heap.size 0 D.toArray.size) := fun W hb => ⟨HH.out.1.trans (hb.mono HH.out.1.size), HH.out.2.2.2.keep hb, by rw [sz]; exact (HH.out.2.2.1.keep (by simp) hb).there rfl⟩
  obtain ⟨g, eg⟩ : ∃ g, Hid (g = w1.heap.size) := ⟨_, rfl⟩
  clear eD kD
  go_wp2_with (first
    | (refine wpList_convert_sameM rfl _ rfl 26 26 w1.heap.size rfl (C := (perI.map (Value.int .u8)).toArray) (fr := (0, 0)) (heap_newM w1 _) ?_; refine wpList_worldA (fun V => Below w1.heap.size w1 V ∧ w1.heap.size < V.heap.size ∧ Bz V w1.heap.size 0 perI) (freshM w1 perI _ rfl) ?_; rintro V ⟨hb1, hs1, hz1⟩; rw [← eg.out] at hs1 hz1 ⊢)
    | (refine wpList_convert_textM rfl _ rfl (Lib.decDigits m) rfl ?_; intro w2 c2 hc hb2 hs2 hz2; rw [eL] at hc ⊢; replace hb1 := hb1.trans (hb2.mono hb1.size); replace hz1 := hz1.keep hb2; clear hb2)
    | (go_at_call 12; refine (CS.out _ _ g V.heap.size c2 (hb1.alloc hb1.size _) (ptsC_three rfl rfl rfl (by rw [PtC.val]; show _ = Value.slice _ X.length c; rw [EM.out.1]) ⟨.inr rfl, (show perI.length ≤ 26 by decide), bysPer, hz1⟩ ⟨.inr rfl, hc, dz.out, hz2⟩ (HB.out _ hb1).2.1)).mono ?_; rintro e y1 ⟨rfl, hbx⟩; replace hb1 := (hb1.alloc hb1.size _).trans (hbx.mono (by have := hb1.size; simp; omega)); have tr := (HB.out _ hb1).2.2)
    | (refine wpList_store_mid rfl 27 _ _ rfl w.heap.size 0 D.toArray rfl rfl tr (by rw [sz]; kernel_rfl) oc ?_; refine wpList_worldA (fun W' => Below w.heap.size w W' ∧ W'.rangeAt w.heap.size 0 D) (laid_in (HB.out _ hb1).1 (Nat.le_refl _) (by simpa using tr)) ?_; rintro W' ⟨B', hD⟩))
  have ld := run_loadVar_mid (P := Tryd.prog) W' w.heap.size 0 27 D _ hD Tryd.underlying27 rfl (by rw [KD.out]; kernel_rfl)
  refine bodyPost_ret (v := .agg D.toArray) ?_ rfl ⟨rfl, B'⟩
  simp [results, Tryd.results5, Act.put, asAddr, ld]
end Go.Proofs.YtmhcgjkemlcgoaaDoor

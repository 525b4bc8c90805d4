import Derived.Test.YtmhcgjkemlcgoaaDoorMgD
import Derived.Test.YtmhcgjkemlcgoaaDoorMgE
import Derived.Test.YtmhcgjkemlcgoaaDoorAdLast
/- Personal of the document. -/
namespace Go.Proofs.YtmhcgjkemlcgoaaDoor
open Go.RowKit Go.Sort
def ethI : List Int := [69, 116, 104, 101, 114, 101, 117, 109, 32, 83, 105, 103, 110, 101, 100, 32, 77, 101, 115, 115, 97, 103, 101, 58, 10]
theorem perI_eth : perI = 25 :: ethI := rfl
theorem bysEth : Bys ethI := fun x hx => bysPer x (List.mem_cons_of_mem _ hx)
theorem bys25 : Bys [25] := fun x hx => by simp at hx; omega
theorem allC_fourM (p q r s : PtC) : allC [p, q, r, s] = p.X ++ (q.X ++ (r.X ++ s.X)) := by simp [allC]
theorem ptsC_fourM {W : World} {p q r s : PtC} {v1 v2 v3 v4 : Value} {g : Nat} {ty : TypeId} (e : g = W.heap.size) (e1 : v1 = p.val) (e2 : v2 = q.val) (e3 : v3 = r.val) (e4 : v4 = s.val) (h1 : p.ok W) (h2 : q.ok W) (h3 : r.ok W) (h4 : s.ok W) : PtsC (W.alloc (.cells #[v1, v2, v3, v4] ty)) g 0 [p, q, r, s] := by subst e; subst e1; subst e2; subst e3; subst e4; exact ptsC_four h1 h2 h3 h4
set_option maxRecDepth 100000 in
set_option maxHeartbeats 8000000 in
theorem rpersonal_any {X : List Int} {a : Option Addr} {b o c m : Nat} {D : List Value} (em : m = X.length) (hX : X.length ≤ 140737488351232) (hnc : a = none → c = 0) (eD : Hid (D = (perM X).map (Value.int .u8))) (w : World) (hp : PtC.ok w ⟨a, b, o, c, X⟩) (hk : RtC w) :
    Calls Tryd.prog 7 #[.slice a m c] w fun e w' => e = .returned (.agg D.toArray) ∧ Below w.heap.size w w' := by
  have EM : Hid (m = X.length ∧ X.length ≤ 140737488351232) := ⟨em, hX⟩
  have m2 : (m : Int) ≤ 140737488351232 := by omega
  have m3 : m < 1000000000000000 := by omega
  have rf := rfrom_any (v := (m : Int)) ⟨by omega, by omega⟩
  have rt := rtextM m3
  have KM : Hid (Lib.nDigits m ≤ 15) := nd_le m3
  have eL : (Lib.decDigits m).length = (decI m).length := (List.length_map _).symm
  have kD : D.length = 32 := by rw [eD.out, List.length_map, perM, kecC_len]
  have oc : D.toArray.all (·.oneCell') = true := by rw [eD.out]; exact one_cells _
  have KD : Hid (D.length = 32) := kD
  have sz : D.toArray.size = 32 := by simp [kD]
  have dz : Hid (Bys (decI m)) := decI_bys m
  have CS : Hid (∀ W bq g g1 g2 c2, RtC W → PtsC W bq 0 [⟨some ⟨g, 0, none⟩, g, 0, 1, [25]⟩, ⟨some ⟨g1, 0, none⟩, g1, 0, 25, ethI⟩, ⟨some ⟨g2, 0, none⟩, g2, 0, c2, decI m⟩, ⟨a, b, o, c, X⟩] → Calls Tryd.prog 15 #[.slice (some ⟨bq, 0, none⟩) 4 4] W fun e w' => e = .returned (.agg D.toArray) ∧ Below W.heap.size W w') := fun W bq g g1 g2 c2 hk PT => by
    have SM := rsumC (ps := [⟨some ⟨g, 0, none⟩, g, 0, 1, [25]⟩, ⟨some ⟨g1, 0, none⟩, g1, 0, 25, ethI⟩, ⟨some ⟨g2, 0, none⟩, g2, 0, c2, decI m⟩, ⟨a, b, o, c, X⟩]) (n := 4) (c := 4) rfl (by rw [allC_fourM]; simp only [List.length_append]; rw [decI_len]; have := KM.out; have := EM.out; have : ethI.length = 25 := rfl; have : [(25 : Int)].length = 1 := rfl; omega) (by show 4 ≤ 1000; decide) (fun p hp e => by simp only [List.mem_cons, List.not_mem_nil, or_false] at hp; rcases hp with rfl | rfl | rfl | rfl; (cases e); (cases e); (cases e); exact hnc e) _ PT hk
    rw [allC_fourM] at SM
    rw [eD.out, perM, perI_eth, ← EM.out.1]
    exact SM
  clear em hX eD kD
  go_enter Tryd.func7, Tryd.ntmps7
  go_wp2_with fail
  refine calls_world (fun W => Below w.heap.size w W ∧ RtC W ∧ Bts W w.heap.size (List.replicate 32 0) ∧ PtC.ok W ⟨a, b, o, c, X⟩) ⟨(Below.refl _ _).alloc (Nat.le_refl _) _, hk.alloc _, Bts.new (List.replicate 32 0) _ rfl, hp.keep ((Below.refl _ _).alloc (Nat.le_refl _) _)⟩ ?_
  rintro W ⟨B, hT, hR, hP⟩
  refine (rf W).mono ?_
  rintro e w0 ⟨rfl, hb⟩
  replace B := B.trans (hb.mono B.size)
  replace hT := hT.keep hb
  replace hR := hR.keep (by simp) hb
  replace hP := hP.keep hb
  clear hb W
  go_wp2_with fail
  refine (rt w0).mono ?_
  rintro e w1 ⟨rfl, hb⟩
  replace B := B.trans (hb.mono B.size)
  replace hT := hT.keep hb
  replace hR := hR.keep (by simp) hb
  replace hP := hP.keep hb
  clear hb w0 rf rt hp hk
  have HB : Hid (∀ W, Below w1.heap.size w1 W → Below w.heap.size w W ∧ RtC W ∧ PtC.ok W ⟨a, b, o, c, X⟩ ∧ W.there w.heap.size 0 D.toArray.size) := fun W hb => ⟨B.trans (hb.mono B.size), hT.keep hb, hP.keep hb, by rw [sz]; exact (hR.keep (by simp) hb).there rfl⟩
  clear B hT hR hP
  have hq1 : ∀ o o', ((w1.alloc o).alloc o').heap[w1.heap.size + 1]? = some o' := fun o o' => by
    have h := heap_newM (w1.alloc o) o'
    simpa using h
  have FR : Hid (Below w1.heap.size w1 (((w1.alloc (.cells #[.int .u8 25] 5)).alloc (.cells (ethI.map (Value.int .u8)).toArray 5)).freeze ⟨w1.heap.size + 1, (ethI.map (Value.int .u8)).toArray.size, none⟩ 1) ∧ w1.heap.size + 1 < (((w1.alloc (.cells #[.int .u8 25] 5)).alloc (.cells (ethI.map (Value.int .u8)).toArray 5)).freeze ⟨w1.heap.size + 1, (ethI.map (Value.int .u8)).toArray.size, none⟩ 1).heap.size ∧ Bz (((w1.alloc (.cells #[.int .u8 25] 5)).alloc (.cells (ethI.map (Value.int .u8)).toArray 5)).freeze ⟨w1.heap.size + 1, (ethI.map (Value.int .u8)).toArray.size, none⟩ 1) w1.heap.size 0 [25] ∧ Bz (((w1.alloc (.cells #[.int .u8 25] 5)).alloc (.cells (ethI.map (Value.int .u8)).toArray 5)).freeze ⟨w1.heap.size + 1, (ethI.map (Value.int .u8)).toArray.size, none⟩ 1) (w1.heap.size + 1) 0 ethI) := by
    have h := freshM (w1.alloc (.cells #[.int .u8 25] 5)) ethI ⟨w1.heap.size + 1, (ethI.map (Value.int .u8)).toArray.size, none⟩ (by simp)
    have hs : (w1.alloc (.cells #[.int .u8 25] 5)).heap.size = w1.heap.size + 1 := by simp
    obtain ⟨h1, h2, h3⟩ := h
    rw [hs] at h2 h3
    exact ⟨((Below.refl _ _).alloc (Nat.le_refl _) _).trans (h1.mono (by rw [hs]; omega)), h2, ((Bts.new [25] _ rfl).ptM bys25).2.2.2.keep h1, h3⟩
  obtain ⟨g, eg⟩ : ∃ g, Hid (g = w1.heap.size) := ⟨_, rfl⟩
  obtain ⟨g1, eg1⟩ : ∃ g, Hid (g = w1.heap.size + 1) := ⟨_, rfl⟩
  go_wp2_with (first
    | (refine wpList_convert_sameM rfl _ rfl 25 25 (w1.heap.size + 1) rfl (C := (ethI.map (Value.int .u8)).toArray) (fr := (0, 0)) (hq1 _ _) ?_; refine wpList_worldA (fun V => Below w1.heap.size w1 V ∧ w1.heap.size + 1 < V.heap.size ∧ Bz V w1.heap.size 0 [25] ∧ Bz V (w1.heap.size + 1) 0 ethI) FR.out ?_; rintro V ⟨hb1, hs1, hy1, hz1⟩; rw [← eg.out] at hy1; rw [← eg1.out] at hs1 hz1; rw [← eg1.out, ← eg.out])
    | (refine wpList_convert_textM rfl _ rfl (Lib.decDigits m) rfl ?_; intro w2 c2 hc hb2 hs2 hz2; rw [eL] at hc ⊢; replace hb1 := hb1.trans (hb2.mono hb1.size); replace hz1 := hz1.keep hb2; replace hy1 := hy1.keep hb2; clear hb2)
    | (go_at_call 15; refine (CS.out _ _ g g1 V.heap.size c2 ((HB.out _ hb1).2.1.alloc _) (ptsC_fourM rfl rfl rfl rfl (by rw [PtC.val]; show _ = Value.slice _ X.length c; rw [EM.out.1]) ⟨.inr rfl, (show [(25 : Int)].length ≤ 1 by decide), bys25, hy1⟩ ⟨.inr rfl, (show ethI.length ≤ 25 by decide), bysEth, hz1⟩ ⟨.inr rfl, hc, dz.out, hz2⟩ (HB.out _ hb1).2.2.1)).mono ?_; rintro e y1 ⟨rfl, hbx⟩; replace hb1 := (hb1.alloc hb1.size _).trans (hbx.mono (by have := hb1.size; simp; omega)); have tr := (HB.out _ hb1).2.2.2)
    | (refine wpList_store_mid rfl 27 _ _ rfl w.heap.size 0 D.toArray rfl rfl tr (by rw [sz]; kernel_rfl) oc ?_; refine wpList_worldA (fun W' => Below w.heap.size w W' ∧ W'.rangeAt w.heap.size 0 D) (laid_in (HB.out _ hb1).1 (Nat.le_refl _) (by simpa using tr)) ?_; rintro W' ⟨B', hD⟩))
  have ld := run_loadVar_mid (P := Tryd.prog) W' w.heap.size 0 27 D _ hD Tryd.underlying27 rfl (by rw [KD.out]; kernel_rfl)
  refine bodyPost_ret (v := .agg D.toArray) ?_ rfl ⟨rfl, B'⟩
  simp [results, Tryd.results7, Act.put, asAddr, ld]
end Go.Proofs.YtmhcgjkemlcgoaaDoor

/- What the statement holds in memory. -/
namespace Go.Proofs.YtmhcgjkemlcgoaaDoor
open Go.RowKit Go.Sort
/-- '==' of two digests. -/
theorem eq_hshM {X Y : List Int} (hx : X.length = 32) (hy : Y.length = 32) (w : World) : (Op.equalIn 10000 27 (.agg (X.map (Value.int .u8)).toArray) (.agg (Y.map (Value.int .u8)).toArray)).run Tryd.prog w = .ok (decide (X = Y)) w := by
  rw [show (10000 : Nat) = 9999 + 1 from rfl, Op.equalIn]
  have tz : (sizeOf 5).run Tryd.prog w = .ok 1 w := by have := Tryd.sizeOf5; simp [go_sem, this]
  simp only [Sem.run_bind, run_underlying Tryd.underlying27, Result.andThen_ok, tz]
  simp only [Std.Legacy.Range.forIn_eq_forIn_range', Std.Legacy.Range.size, Nat.sub_zero, Nat.add_sub_cancel, Nat.div_one]
  have h := eq_loopJ (X := X) (Y := Y) w 32 0 (by omega) (by omega)
  rw [h, sameJ_eq hx hy]
  by_cases e : X = Y <;> simp [e]
/-- A digest's place: it holds these cells and may be written. -/
def Bx (W : World) (b : Nat) (D : List Value) : Prop := W.rangeAt b 0 D ∧ W.there b 0 32 ∧ b < W.heap.size
theorem Bx.same {W W' : World} {b : Nat} {D : List Value} (h : Bx W b D) (e : W'.heap[b]? = W.heap[b]?) (s : W.heap.size ≤ W'.heap.size) : Bx W' b D :=
  ⟨fun j v hv => by rw [World.cell?_of_block (w := W) (a := ⟨b, 0 + j, none⟩) e]; exact h.1 j v hv,
   fun j hj => by rw [World.cell?_of_block (w := W) (a := ⟨b, 0 + j, none⟩) e, World.frozen?_of_block (w := W) (a := ⟨b, 0 + j, none⟩) e]; exact h.2.1 j hj, Nat.lt_of_lt_of_le h.2.2 s⟩
theorem Bx.keep {W W' : World} {b : Nat} {D : List Value} (h : Bx W b D) (hb : Below W.heap.size W W') : Bx W' b D := h.same (hb.block b h.2.2) hb.size
theorem Bx.grown {W W' : World} {b : Nat} {D : List Value} {row : Option Nat} (h : Bx W b D) (hg : W.grownBy W' row) (hn : some b ≠ row) : Bx W' b D := h.same (hg.block b h.2.2 hn) hg.size
theorem there_setCellsM {b : Nat} : ∀ (vs : List Value) (o : Nat) (W : World) (b' n : Nat), W.there b' 0 n → (W.setCells b o vs).there b' 0 n
  | [], _, _, _, _, h => h
  | v :: vs, o, W, b', n, h => there_setCellsM vs (o + 1) (W.setCell ⟨b, o, none⟩ v) b' n fun j hj => by
    obtain ⟨h1, h2⟩ := h j hj
    refine ⟨?_, by rw [World.frozen?_setCell]; exact h2⟩
    obtain ⟨u, hu⟩ := Option.isSome_iff_exists.1 h1
    by_cases e : (⟨b, o, none⟩ : Addr) = ⟨b', 0 + j, none⟩
    · rw [← e, World.cell?_setCell_same _ _ _ (by rw [e]; exact hu)]; rfl
    · rw [World.cell?_setCell_other _ _ _ _ e, hu]; rfl
theorem grown_setCellsM (W : World) (b : Nat) (vs : List Value) : W.grownBy (W.setCells b 0 vs) (some b) := by
  have h : ∀ (vs : List Value) (o : Nat) (W' : World), W.grownBy W' (some b) → W.grownBy (W'.setCells b o vs) (some b) := fun vs => by
    induction vs with
    | nil => exact fun _ _ h => h
    | cons v r ih =>
      intro o W' h
      refine ih (o + 1) _ ⟨h.os, h.tape, h.output, by simp; exact h.size, fun k hk hn => ?_⟩
      rw [← h.block k hk hn]
      show (W'.setCell ⟨b, o, none⟩ v).heap[k]? = _
      have hne : k ≠ b := fun e => hn (by rw [e])
      simp [World.setCell, Array.getElem?_modify, Ne.symm hne]
  exact h vs 0 W (World.grownBy.refl _ _)
theorem size_setCellsM (W : World) (b : Nat) (vs : List Value) : ∀ o, (W.setCells b o vs).heap.size = W.heap.size := by
  induction vs generalizing W with
  | nil => exact fun _ => rfl
  | cons v r ih => exact fun o => by rw [World.setCells, ih]; simp
theorem Bx.put {W : World} {b : Nat} {D L : List Value} (h : Bx W b L) (k : D.length = 32) : Bx (W.setCells b 0 D) b D :=
  ⟨World.rangeAt_setCells_same _ _ _ _ (by rw [k]; exact h.2.1), there_setCellsM _ _ _ _ _ h.2.1, by rw [size_setCellsM]; exact h.2.2⟩
theorem Bx.new {W : World} {D : List Value} {t : TypeId} (k : D.length = 32) : Bx ((W.alloc (.cells ((List.replicate 32 (0 : Int)).map (Value.int .u8)).toArray t)).setCells W.heap.size 0 D) W.heap.size D :=
  Bx.put (L := (List.replicate 32 (0 : Int)).map (Value.int .u8)) ⟨rangeBox, there_new rfl rfl, by simp⟩ k
theorem below_newM {W : World} {D : List Value} {o : Obj} : Below W.heap.size W ((W.alloc o).setCells W.heap.size 0 D) := below_setCells (Nat.le_refl _) D 0 _ ((Below.refl _ _).alloc (Nat.le_refl _) _)
theorem PtC.ok.grown {W W' : World} {p : PtC} {row : Option Nat} (h : p.ok W) (hg : W.grownBy W' row) (hn : p.X ≠ [] → row ≠ some p.b) : p.ok W' := ⟨h.1, h.2.1, h.2.2.1, h.2.2.2.grown hg hn⟩
theorem range_sameM {W W' : World} {b : Nat} {M : List Value} (h : W.rangeAt b 0 M) (e : W'.heap[b]? = W.heap[b]?) : W'.rangeAt b 0 M := fun j v hv => by
  rw [World.cell?_of_block (w := W) (a := ⟨b, 0 + j, none⟩) e]; exact h j v hv
end Go.Proofs.YtmhcgjkemlcgoaaDoor

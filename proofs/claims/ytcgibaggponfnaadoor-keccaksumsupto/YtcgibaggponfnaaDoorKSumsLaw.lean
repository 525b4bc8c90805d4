import Derived.Test.YtcgibaggponfnaaDoorKCopy
import Derived.Test.YtcgibaggponfnaaDoorKKnown
import Derived.Test.YtcgibaggponfnaaDoorKPermutes
namespace Go.Proofs.YtcgibaggponfnaaDoor
open Go.RowKit Go.Sort

/-- The tables of both. -/
def Tabs (W : World) : Prop := (Tab W 3 turnsN ∧ Lns W 0 marksN) ∧ (Tab W 2 turnsN ∧ Lns W 1 marksN)
theorem Tabs.keep {w W : World} (h : Tabs w) (hb : Below w.heap.size w W) : Tabs W := ⟨⟨h.1.1.keep hb, h.1.2.keep hb⟩, ⟨h.2.1.keep hb, h.2.2.keep hb⟩⟩
theorem Prts.keep {w W : World} {b o : Nat} {PS : List Part} (h : Prts w b o PS) (hb : Below w.heap.size w W) : Prts W b o PS := fun i hi => by
  obtain ⟨h1, h2, h3, h4⟩ := h i hi
  exact ⟨cell_keep hb h1, h2, h3, h4.keep hb⟩

/-- What is lent, and the cell behind it. -/
structure St (w W : World) (G ge n : Nat) (gs : List Nat) (XS : List (List (BitVec 8))) : Prop where
  below : Below w.heap.size w W
  hG : w.heap.size ≤ G
  len : gs.length = n
  lent : Lent W w.heap.size G XS gs
  c1 : W.cell? ⟨G, n, none⟩ = some (.slice (some ⟨ge, 0, none⟩) 1 1)
  c2 : W.cell? ⟨ge, 0, none⟩ = some (.int .u8 195)
  ne : ∀ i, i < n → gs.getD i 0 ≠ ge
theorem St.keep {w W W' : World} {G ge n : Nat} {gs : List Nat} {XS : List (List (BitVec 8))} (h : St w W G ge n gs XS) (hb : Below W.heap.size W W') : St w W' G ge n gs XS :=
  ⟨h.below.trans (hb.mono h.below.size), h.hG, h.len, h.lent.keep hb, cell_keep hb h.c1, cell_keep hb h.c2, h.ne⟩
/-- The digest's bytes. -/
noncomputable def hL (k : Int) (X : List (BitVec 8)) : List (BitVec 8) := hashL (finL k (absb (List.replicate 25 0) 0 X) X.length)
theorem hL_len (k : Int) (X : List (BitVec 8)) : (hL k X).length = 32 := hashL_len ..
theorem digV_hL (k : Int) (X : List (BitVec 8)) : digV k X = .agg (byts (hL k X)).toArray := rfl
theorem St.sum {w W : World} {G ge n : Nat} {gs : List Nat} {XS : List (List (BitVec 8))} (h : St w W G ge n gs XS) (hx : XS.length = n) (hs : XS.flatten.length < 1073741824) (hn : n < 1073741824) (hT : Tabs W) :
    Calls Tryd.prog 11 #[.slice (some ⟨G, 0, none⟩) n (n + 1)] W fun e w' => e = .returned (.agg (byts (hL 0 XS.flatten)).toArray) ∧ Below W.heap.size W w' := by
  have e := lentP_cat (XS := XS) (gs := gs) (by rw [h.len, hx])
  have l : (lentP XS gs).length = n := by rw [lentP_len, h.len]
  have k := sum_any (PS := lentP XS gs) (cp := n + 1) (by rw [e]; exact hs) (by omega) (by omega) (.inr rfl) W h.lent.prts hT.1.1 hT.1.2
  rw [l, e, digV_hL] at k
  exact k
theorem St.sha {w W : World} {G ge n : Nat} {gs : List Nat} {XS : List (List (BitVec 8))} (h : St w W G ge n gs XS) (hx : XS.length = n) (hs : XS.flatten.length < 1073741824) (hn : n < 1073741824) (hT : Tabs W) :
    Calls Tryd.prog 17 #[.slice (some ⟨G, 0, none⟩) n (n + 1)] W fun e w' => e = .returned (.agg (byts (hL 1 XS.flatten)).toArray) ∧ Below W.heap.size W w' := by
  have e := lentP_cat (XS := XS) (gs := gs) (by rw [h.len, hx])
  have l : (lentP XS gs).length = n := by rw [lentP_len, h.len]
  have k := sha_any (PS := lentP XS gs) (cp := n + 1) (by rw [e]; exact hs) (by omega) (by omega) (.inr rfl) W h.lent.prts hT.1.1 hT.1.2
  rw [l, e, digV_hL] at k
  exact k

theorem Stock.base {w W : World} {a : Option Addr} {g c n : Nat} {PS : List Part} (h : Stock w W (.slice a n c) PS) (e : a = some ⟨g, 0, none⟩) : w.heap.size ≤ g := by subst e; exact (h.own.lt g rfl).1
theorem Prts.off {W W' : World} {b o g : Nat} {PS : List Part} (h : Prts W b o PS) (hb : b ≠ g) (hp : ∀ p ∈ PS, p.X = [] ∨ p.b ≠ g) (ho : Off g W W') : Prts W' b o PS := fun i hi => by
  obtain ⟨h1, h2, h3, h4⟩ := h i hi
  have hm : PS.getD i .none ∈ PS := by rw [List.getD, List.getElem?_eq_getElem hi]; exact List.getElem_mem hi
  refine ⟨ho.cell hb h1, h2, h3, fun j hj => ?_⟩
  rcases hp _ hm with e | e
  · rw [e] at hj; exact absurd hj (Nat.not_lt_zero _)
  · exact ho.cell e (h4 j hj)
theorem Lent.off {W W' : World} {B G b : Nat} {XS : List (List (BitVec 8))} {gs : List Nat} (h : Lent W B G XS gs) (ho : Off b W W') (hG : G ≠ b) (hg : ∀ i, i < gs.length → gs.getD i 0 ≠ b) : Lent W' B G XS gs := fun i hi => by
  obtain ⟨h1, h2, h3, h4⟩ := h i hi
  exact ⟨ho.cell (p := ⟨G, i, none⟩) hG h1, ⟨h2.1, Nat.lt_of_lt_of_le h2.2.1 ho.size, h2.2.2⟩, h3.off ho (hg i hi) h2.2.1, h4⟩
theorem St.off {w W W' : World} {G ge n b : Nat} {gs : List Nat} {XS : List (List (BitVec 8))} (h : St w W G ge n gs XS) (ho : Off b W W') (hb : w.heap.size ≤ b) (hG : G ≠ b) (hg : ∀ i, i < n → gs.getD i 0 ≠ b) (he : ge ≠ b) : St w W' G ge n gs XS :=
  ⟨h.below.trans (ho.below h.below.size hb), h.hG, h.len, h.lent.off ho hG (by rw [h.len]; exact hg), ho.cell (p := ⟨G, n, none⟩) hG h.c1, ho.cell (p := ⟨ge, 0, none⟩) he h.c2, h.ne⟩
theorem St.copied {w W W' : World} {G ge n i : Nat} {gs : List Nat} {XS : List (List (BitVec 8))} {Z : List (BitVec 8)} (h : St w W G ge n gs XS) (hx : XS.length = n) (hi : i < n) (hz : Z.length = (XS.getD i []).length) (hr : Row8 W' (gs.getD i 0) (Z ++ List.replicate 200 195)) (ho : Off (gs.getD i 0) W W') : St w W' G ge n gs (XS.set i Z) :=
  ⟨h.below.trans (ho.below h.below.size (h.lent i (by rw [h.len]; exact hi)).2.1.1), h.hG, h.len, h.lent.copied (by rw [h.len]; exact hi) (by rw [h.len, hx]) hz hr ho, ho.cell (p := ⟨G, n, none⟩) (h.lent i (by rw [h.len]; exact hi)).2.1.2.2.symm h.c1, ho.cell (p := ⟨ge, 0, none⟩) (h.ne i hi).symm h.c2, h.ne⟩

set_option maxHeartbeats 8000000 in
theorem sums_law {a : Option Addr} {bp op cp : Nat} {PS : List Part} (hs : (catX PS).length < 1073741824) (hn : PS.length < 1073741824) (ha : PS = [] ∨ a = some ⟨bp, op, none⟩) (hz : ∀ p ∈ PS, p.a = none → p.c = 0) (w : World) (hP : Prts w bp op PS) (hT : Tabs w) :
    Calls Tryd.prog 6 #[.slice a PS.length cp] w fun e w' => e = .returned (.bool true) ∧ Below w.heap.size w w' := by
  have HA : Hid (Prts w bp op PS ∧ (PS = [] ∨ a = some ⟨bp, op, none⟩) ∧ (catX PS).length < 1073741824 ∧ PS.length < 1073741824 ∧ (∀ p ∈ PS, p.a = none → p.c = 0) ∧ Tabs w) := ⟨hP, ha, hs, hn, hz, hT⟩
  have nb : (PS.length : Int) < 1073741824 := by omega
  clear hP ha hs hn hz hT
  go_enter Tryd.func6, Tryd.ntmps6
  go_wp2_with fail
  refine (lentAll_any HA.out.2.2.1 (Nat.le_of_lt HA.out.2.2.2.1) HA.out.2.1 _ HA.out.1).mono ?_
  rintro e w1 ⟨G, gs, ge, rfl, hG, hg, hL, hC, c1, c2, hd, hb⟩
  obtain ⟨XS, kX⟩ : ∃ XS, XS = PS.map (·.X) := ⟨_, rfl⟩
  have KX : Hid (XS = PS.map (·.X) ∧ XS.length = PS.length ∧ catX PS = XS.flatten ∧ XS.flatten.length < 1073741824) := by
    have h : catX PS = XS.flatten := by rw [kX]; exact catX_flat PS
    exact ⟨kX, by rw [kX]; exact List.length_map .., h, by rw [← h]; exact HA.out.2.2.1⟩
  rw [← kX] at hL
  have I1 : Hid (St w w1 G ge PS.length gs XS) := ⟨hb, hG, hg, hL, c1, c2, hd⟩
  clear hG hg hL hC c1 c2 hd hb kX
  go_wp2_with fail
  refine (I1.out.sum KX.out.2.1 KX.out.2.2.2 HA.out.2.2.2.1 (HA.out.2.2.2.2.2.keep I1.out.below)).mono ?_
  rintro e w2 ⟨rfl, hb⟩
  have I2 : Hid (St w w2 G ge PS.length gs XS) := I1.out.keep hb
  clear hb I1
  obtain ⟨M0, k0⟩ : ∃ M, M = hL 0 XS.flatten := ⟨_, rfl⟩
  obtain ⟨M1, k1⟩ : ∃ M, M = hL 1 XS.flatten := ⟨_, rfl⟩
  have L01 : Hid (M0.length = 32 ∧ M1.length = 32) := ⟨by rw [k0]; exact hL_len .., by rw [k1]; exact hL_len ..⟩
  have DG : Hid (hL 0 XS.flatten = M0 ∧ hL 1 XS.flatten = M1) := ⟨k0.symm, k1.symm⟩
  rw [← k0]
  clear k0 k1
  have oc0 := one_byts M0
  have oc1 := one_byts M1
  have sz0 : ((byts M0).toArray).size = 32 := by simp [byts_len, L01.out.1]
  have sz1 : ((byts M1).toArray).size = 32 := by simp [byts_len, L01.out.2]
  go_wp2_with (refine wpList_store_mid rfl 30 _ _ rfl w2.heap.size 0 (byts M0).toArray rfl rfl ?th ?sz oc0 ?go; rw [sz0]; exact (Hsh.zeros _ rfl).there; rw [sz0]; kernel_rfl; refine wpList_world (fun W => St w W G ge PS.length gs XS ∧ Hsh W w2.heap.size M0) ⟨I2.out.keep (below_setCells (Nat.le_refl _) _ 0 _ ((Below.refl _ _).alloc (Nat.le_refl _) _)), (Hsh.zeros _ rfl).stored L01.out.1⟩ ?_; intro W3 hh; have I3 : Hid (St w W3 G ge PS.length gs XS ∧ Hsh W3 w2.heap.size M0 ∧ w.heap.size ≤ w2.heap.size ∧ G < w2.heap.size ∧ (∀ i, i < PS.length → gs.getD i 0 < w2.heap.size) ∧ ge < w2.heap.size) := ⟨hh.1, hh.2, I2.out.below.size, World.block_lt_of_cell? w2 _ I2.out.c1, fun i hi => (I2.out.lent i (by rw [I2.out.len]; exact hi)).2.1.2.1, World.block_lt_of_cell? w2 _ I2.out.c2⟩; clear hh)
  have n8 : Hid (w2.heap.size = w2.heap.size) := rfl
  clear I2
  generalize w2.heap.size = g0 at *
  clear n8
  refine (I3.out.1.sha KX.out.2.1 KX.out.2.2.2 HA.out.2.2.2.1 (HA.out.2.2.2.2.2.keep I3.out.1.below)).mono ?_
  rintro e w4 ⟨rfl, hb⟩
  rw [DG.out.2]
  have I4 : Hid (St w w4 G ge PS.length gs XS ∧ Hsh w4 g0 M0) := ⟨I3.out.1.keep hb, I3.out.2.1.keep hb⟩
  have N3 : Hid (w.heap.size ≤ g0 ∧ G < g0 ∧ (∀ i, i < PS.length → gs.getD i 0 < g0) ∧ ge < g0) := I3.out.2.2
  clear hb I3
  go_wp2_with (refine wpList_store_mid rfl 30 _ _ rfl w4.heap.size 0 (byts M1).toArray rfl rfl ?th2 ?sz2 oc1 ?go2; rw [sz1]; exact (Hsh.zeros _ rfl).there; rw [sz1]; kernel_rfl; refine wpList_world (fun W => St w W G ge PS.length gs XS ∧ Hsh W g0 M0 ∧ Hsh W w4.heap.size M1) ⟨I4.out.1.keep (below_setCells (Nat.le_refl _) _ 0 _ ((Below.refl _ _).alloc (Nat.le_refl _) _)), (I4.out.2.alloc _).otherCells (by have := I4.out.2.lt; omega) _, (Hsh.zeros _ rfl).stored L01.out.2⟩ ?_; intro W5 hh; have I5 : Hid (St w W5 G ge PS.length gs XS ∧ Hsh W5 g0 M0 ∧ Hsh W5 w4.heap.size M1 ∧ g0 < w4.heap.size) := ⟨hh.1, hh.2.1, hh.2.2, I4.out.2.lt⟩; clear hh)
  clear I4
  generalize w4.heap.size = g1 at *
  simp only [Act.put]
  clear oc0 oc1 sz0 sz1
  have q0 := fun w => eq_hash L01.out.1 L01.out.1 w
  have q1 := fun w => eq_hash L01.out.2 L01.out.2 w
  simp only [decide_true] at q0 q1
  have ld0 : Hid (∀ w', (∃ p : Regrown, w' = grow (redrawn W5 p.d) p.os) → w'.rangeAt g0 0 (byts M0)) := by rintro w' ⟨p, rfl⟩; exact (I5.out.2.1.keep (below_regrown W5 p.d p.os)).range
  have ld1 : Hid (∀ w', (∃ p : Regrown, w' = grow (redrawn W5 p.d) p.os) → w'.rangeAt g1 0 (byts M1)) := by rintro w' ⟨p, rfl⟩; exact (I5.out.2.2.1.keep (below_regrown W5 p.d p.os)).range
  have m0 : Hid ((byts M0).length = 32 ∧ (byts M1).length = 32) := by rw [byts_len, byts_len]; exact L01.out
  have TT : Hid (∀ d os, Tabs (grow (redrawn W5 d) os) ∧ Prts (grow (redrawn W5 d) os) bp op PS ∧ St w (grow (redrawn W5 d) os) G ge PS.length gs XS) := fun d os => by
    have h := I5.out.1.keep (below_regrown W5 d os)
    exact ⟨HA.out.2.2.2.2.2.keep h.below, HA.out.1.keep h.below, h⟩
  have S0 : Hid (∀ d os, Calls Tryd.prog 21 #[.slice a PS.length cp] (grow (redrawn W5 d) os) fun e w' => e = .returned (.agg (byts M0).toArray) ∧ Below (grow (redrawn W5 d) os).heap.size (grow (redrawn W5 d) os) w') := fun d os => by
    have h := rsum_any (cp := cp) HA.out.2.2.1 (Nat.le_of_lt HA.out.2.2.2.1) HA.out.2.1 HA.out.2.2.2.2.1 _ (TT.out d os).2.1 (TT.out d os).1.2.1 (TT.out d os).1.2.2
    rw [KX.out.2.2.1, digV_hL, DG.out.1] at h
    exact h
  have S1 : Hid (∀ d os, Calls Tryd.prog 22 #[.slice a PS.length cp] (grow (redrawn W5 d) os) fun e w' => e = .returned (.agg (byts M1).toArray) ∧ Below (grow (redrawn W5 d) os).heap.size (grow (redrawn W5 d) os) w') := fun d os => by
    have h := rsha_any (cp := cp) HA.out.2.2.1 (Nat.le_of_lt HA.out.2.2.2.1) HA.out.2.1 HA.out.2.2.2.2.1 _ (TT.out d os).2.1 (TT.out d os).1.2.1 (TT.out d os).1.2.2
    rw [KX.out.2.2.1, digV_hL, DG.out.2] at h
    exact h
  have S2 : Hid (∀ d os, Calls Tryd.prog 23 #[.slice (some ⟨G, 0, none⟩) PS.length (PS.length + 1), .slice a PS.length cp] (grow (redrawn W5 d) os) fun e w' => e = .returned (.bool true) ∧ Below (grow (redrawn W5 d) os).heap.size (grow (redrawn W5 d) os) w') := fun d os => by
    have h := (TT.out d os).2.2
    exact stillAll_any HA.out.2.2.1 (Nat.le_of_lt HA.out.2.2.2.1) HA.out.2.1 _ (TT.out d os).2.1 h.len (by rw [← KX.out.1]; exact h.lent) h.c1 h.c2
  refine wp_region_quiet_below (by kernel_rfl) (by kernel_rfl) ?_
  repeat
    first
      | go_big_quiet_skip
      | (go_big_quiet_want; go_big_quiet_op; go_big_quiet_on)
      | (go_big_quiet_want; refine quiet_load_mid 30 _ rfl g0 0 rfl (byts M0) _ ld0.out Tryd.underlying30 rfl (by rw [m0.out.1]; kernel_rfl) ?_; simp only [Act.put, List.setIfInBounds_toArray, List.set_cons_succ, List.set_cons_zero]; go_big_quiet_on)
      | (go_big_quiet_want; refine quiet_load_mid 30 _ rfl g1 0 rfl (byts M1) _ ld1.out Tryd.underlying30 rfl (by rw [m0.out.2]; kernel_rfl) ?_; simp only [Act.put, List.setIfInBounds_toArray, List.set_cons_succ, List.set_cons_zero]; go_big_quiet_on)
      | (go_big_quiet_want
         go_big_quiet_op
         apply Exists.intro
         refine ⟨fun p => ?_, ?_⟩
         · first
             | (go_at_call 21; exact Calls.regrown_of (S0.out _ _))
             | (go_at_call 22; exact Calls.regrown_of (S1.out _ _))
             | (go_at_call 23; exact Calls.regrown_of (S2.out _ _))
         go_big_quiet_on)
  refine wpQuiet_nil ?_
  rintro w6 ⟨p, rfl⟩
  have hb := below_regrown W5 p.d p.os
  generalize grow (redrawn W5 p.d) p.os = w6 at *
  have I6 : Hid (St w w6 G ge PS.length gs XS ∧ Hsh w6 g0 M0 ∧ Hsh w6 g1 M1 ∧ g0 < g1) := ⟨I5.out.1.keep hb, I5.out.2.1.keep hb, I5.out.2.2.1.keep hb, I5.out.2.2.2⟩
  clear hb I5 TT S0 S1 S2 ld0 ld1 q0 q1 m0
  go_wp2_with fail
  refine (turnedAll_any HA.out.2.2.1 (Nat.le_of_lt HA.out.2.2.2.1) HA.out.2.1 _ (HA.out.1.keep I6.out.1.below)).mono ?_
  rintro e w7 ⟨v, QS, rfl, hst, hq⟩
  obtain ⟨a2, h2, c2, ev, e2, hc2, hz2, hp2⟩ := hst.prts
  subst ev
  obtain ⟨ZS, kZ⟩ : ∃ ZS, ZS = QS.map (·.X) := ⟨_, rfl⟩
  have lq : QS.length = PS.length := by have h := congrArg List.length hq; simpa using h
  rw [lq]
  have KZ : Hid (ZS = QS.map (·.X) ∧ ZS.length = PS.length ∧ catX QS = ZS.flatten ∧ ZS.flatten.length < 1073741824 ∧ QS.length = PS.length ∧ (∀ j, (ZS.getD j []).length = (XS.getD j []).length)) := by
    have h : catX QS = ZS.flatten := by rw [kZ]; exact catX_flat QS
    have h2 : ZS.flatten.length = XS.flatten.length := by
      rw [kZ, hq, KX.out.1, List.length_flatten, List.length_flatten, List.map_map, List.map_map]
      congr 1
      apply List.map_congr_left
      intro p _
      simp
    refine ⟨kZ, by rw [kZ, List.length_map]; exact lq, h, by rw [h2]; exact KX.out.2.2.2, lq, fun j => ?_⟩
    rw [kZ, hq, KX.out.1, List.getD, List.getD, List.getElem?_map, List.getElem?_map]
    cases PS[j]? <;> simp
  have KQ : Hid ((QS = [] ∨ a2 = some ⟨h2, 0, none⟩) ∧ (∀ p ∈ QS, p.a = none → p.c = 0) ∧ (∀ g, g < w6.heap.size → QS = [] ∨ (h2 ≠ g ∧ ∀ p ∈ QS, p.X = [] ∨ p.b ≠ g))) := by
    refine ⟨e2, fun p hp => (hst.parts p hp).2.1, fun g hg => ?_⟩
    rcases e2 with e | e
    · exact .inl e
    · refine .inr ⟨by have := hst.base e; omega, fun p hp => ?_⟩
      rcases (hst.parts p hp).2.2 with h | ⟨h, _⟩
      · exact .inl h
      · exact .inr (by omega)
  have N6 : Hid ((∀ i, i < PS.length → gs.getD i 0 < w6.heap.size) ∧ g0 < w6.heap.size ∧ g1 < w6.heap.size) := ⟨fun i hi => (I6.out.1.lent i (by rw [I6.out.1.len]; exact hi)).2.1.2.1, I6.out.2.1.lt, I6.out.2.2.1.lt⟩
  have I7 : Hid (St w w7 G ge PS.length gs XS ∧ Hsh w7 g0 M0 ∧ Hsh w7 g1 M1 ∧ Prts w7 h2 0 QS) := ⟨I6.out.1.keep hst.below, I6.out.2.1.keep hst.below, I6.out.2.2.1.keep hst.below, hp2⟩
  have NE : Hid (g0 ≠ g1 ∧ w.heap.size ≤ g0 ∧ w.heap.size ≤ g1 ∧ (∀ i, i < PS.length → gs.getD i 0 ≠ g0 ∧ gs.getD i 0 ≠ g1) ∧ G ≠ g0 ∧ G ≠ g1 ∧ ge ≠ g0 ∧ ge ≠ g1) := by
    have h1 := I6.out.2.2.2
    have h3 := N3.out
    exact ⟨by omega, h3.1, by omega, fun i hi => ⟨by have := h3.2.2.1 i hi; omega, by have := h3.2.2.1 i hi; omega⟩, by omega, by omega, by omega, by omega⟩
  clear hst hq e2 hc2 hz2 hp2 kZ I6 N3
  go_wp2_with fail
  go_loopg [7] PS.length (fun k iv wr => ∃ (i : Nat) (YS : List (List (BitVec 8))), k = PS.length - i ∧ i ≤ PS.length ∧ iv = .int .i64 i ∧ YS.length = PS.length ∧ (∀ j, j < i → YS.getD j [] = ZS.getD j []) ∧ (∀ j, i ≤ j → YS.getD j [] = XS.getD j []) ∧ St w wr G ge PS.length gs YS ∧ Hsh wr g0 M0 ∧ Hsh wr g1 M1 ∧ Prts wr h2 0 QS)
  case atStart => exact ⟨0, XS, rfl, Nat.zero_le _, rfl, KX.out.2.1, fun j hj => absurd hj (Nat.not_lt_zero _), fun _ _ => rfl, I7.out⟩
  case round =>
    clear I7
    obtain ⟨i, YS, hk, hi9, rfl, hy, hy1, hy2, hf⟩ := hrel
    have HK : Hid (gk = PS.length - i) := hk
    have HY : Hid (YS.length = PS.length ∧ (∀ j, j < i → YS.getD j [] = ZS.getD j []) ∧ (∀ j, i ≤ j → YS.getD j [] = XS.getD j [])) := ⟨hy, hy1, hy2⟩
    have HF : Hid (St w wr G ge PS.length gs YS ∧ Hsh wr g0 M0 ∧ Hsh wr g1 M1 ∧ Prts wr h2 0 QS) := hf
    clear hk hy hy1 hy2 hf
    by_cases h8 : i = PS.length
    · subst h8
      have ez : YS = ZS := by
        apply List.ext_getElem (by rw [HY.out.1, KZ.out.2.1])
        intro j j1 j2
        have h := HY.out.2.1 j (by rw [HY.out.1] at j1; exact j1)
        simpa [List.getD, j1, j2] using h
      subst ez
      go_wp2_with fail
      clear HY
      refine (HF.out.1.sum KZ.out.2.1 KZ.out.2.2.2.1 HA.out.2.2.2.1 (HA.out.2.2.2.2.2.keep HF.out.1.below)).mono ?_
      rintro e w8 ⟨rfl, hb⟩
      have I8 : Hid (St w w8 G ge PS.length gs YS ∧ Hsh w8 g0 M0 ∧ Hsh w8 g1 M1 ∧ Prts w8 h2 0 QS) := ⟨HF.out.1.keep hb, HF.out.2.1.keep hb, HF.out.2.2.1.keep hb, HF.out.2.2.2.keep hb⟩
      clear hb HF
      have PO : Hid (∀ {W W' : World} {b : Nat}, Prts W h2 0 QS → Off b W W' → b < w6.heap.size → Prts W' h2 0 QS) := by
        intro W W' b h ho hl
        rcases KQ.out.2.2 b hl with e | e
        · rw [e]; exact fun i hi => absurd hi (Nat.not_lt_zero _)
        · exact h.off e.1 e.2 ho
      obtain ⟨N0, k0⟩ : ∃ M, M = hL 0 YS.flatten := ⟨_, rfl⟩
      obtain ⟨N1, k1⟩ : ∃ M, M = hL 1 YS.flatten := ⟨_, rfl⟩
      have J01 : Hid (N0.length = 32 ∧ N1.length = 32) := ⟨by rw [k0]; exact hL_len .., by rw [k1]; exact hL_len ..⟩
      have DN : Hid (hL 0 YS.flatten = N0 ∧ hL 1 YS.flatten = N1) := ⟨k0.symm, k1.symm⟩
      rw [← k0]
      clear k0 k1
      have oc0 := one_byts N0
      have oc1 := one_byts N1
      have sz0 : ((byts N0).toArray).size = 32 := by simp [byts_len, J01.out.1]
      have sz1 : ((byts N1).toArray).size = 32 := by simp [byts_len, J01.out.2]
      have tr0 : w8.there g0 0 ((byts N0).toArray).size := by rw [sz0]; exact I8.out.2.1.there
      go_wp2_with (refine wpList_store_mid rfl 30 _ _ rfl g0 0 (byts N0).toArray rfl rfl tr0 (by rw [sz0]; kernel_rfl) oc0 ?_; refine wpList_world (fun W => St w W G ge PS.length gs YS ∧ Hsh W g0 N0 ∧ Hsh W g1 M1 ∧ Prts W h2 0 QS) ⟨I8.out.1.off ((Off.refl _ _).setCells _) NE.out.2.1 NE.out.2.2.2.2.1 (fun i hi => (NE.out.2.2.2.1 i hi).1) NE.out.2.2.2.2.2.2.1, I8.out.2.1.stored J01.out.1, I8.out.2.2.1.off ((Off.refl _ _).setCells _) NE.out.1.symm, PO.out I8.out.2.2.2 ((Off.refl _ _).setCells _) N6.out.2.1⟩ ?_; intro W9 hh; have I9 : Hid (St w W9 G ge PS.length gs YS ∧ Hsh W9 g0 N0 ∧ Hsh W9 g1 M1 ∧ Prts W9 h2 0 QS) := hh; clear hh)
      clear I8 tr0
      refine (I9.out.1.sha KZ.out.2.1 KZ.out.2.2.2.1 HA.out.2.2.2.1 (HA.out.2.2.2.2.2.keep I9.out.1.below)).mono ?_
      rintro e wa ⟨rfl, hb⟩
      rw [DN.out.2]
      have Ia : Hid (St w wa G ge PS.length gs YS ∧ Hsh wa g0 N0 ∧ Hsh wa g1 M1 ∧ Prts wa h2 0 QS) := ⟨I9.out.1.keep hb, I9.out.2.1.keep hb, I9.out.2.2.1.keep hb, I9.out.2.2.2.keep hb⟩
      clear hb I9
      have tr1 : wa.there g1 0 ((byts N1).toArray).size := by rw [sz1]; exact Ia.out.2.2.1.there
      go_wp2_with (refine wpList_store_mid rfl 30 _ _ rfl g1 0 (byts N1).toArray rfl rfl tr1 (by rw [sz1]; kernel_rfl) oc1 ?_; refine wpList_world (fun W => St w W G ge PS.length gs YS ∧ Hsh W g0 N0 ∧ Hsh W g1 N1 ∧ Prts W h2 0 QS) ⟨Ia.out.1.off ((Off.refl _ _).setCells _) NE.out.2.2.1 NE.out.2.2.2.2.2.1 (fun i hi => (NE.out.2.2.2.1 i hi).2) NE.out.2.2.2.2.2.2.2, Ia.out.2.1.off ((Off.refl _ _).setCells _) NE.out.1, Ia.out.2.2.1.stored J01.out.2, PO.out Ia.out.2.2.2 ((Off.refl _ _).setCells _) N6.out.2.2⟩ ?_; intro Wb hh; have Ib : Hid (St w Wb G ge PS.length gs YS ∧ Hsh Wb g0 N0 ∧ Hsh Wb g1 N1 ∧ Prts Wb h2 0 QS) := hh; clear hh)
      clear Ia tr1
      try simp only [Act.put]
      clear oc0 oc1 sz0 sz1 PO
      have q0 := fun w => eq_hash J01.out.1 J01.out.1 w
      have q1 := fun w => eq_hash J01.out.2 J01.out.2 w
      simp only [decide_true] at q0 q1
      have ld0 : Hid (∀ w', (∃ p : Regrown, w' = grow (redrawn Wb p.d) p.os) → w'.rangeAt g0 0 (byts N0)) := by rintro w' ⟨p, rfl⟩; exact (Ib.out.2.1.keep (below_regrown Wb p.d p.os)).range
      have ld1 : Hid (∀ w', (∃ p : Regrown, w' = grow (redrawn Wb p.d) p.os) → w'.rangeAt g1 0 (byts N1)) := by rintro w' ⟨p, rfl⟩; exact (Ib.out.2.2.1.keep (below_regrown Wb p.d p.os)).range
      have m0 : Hid ((byts N0).length = 32 ∧ (byts N1).length = 32) := by rw [byts_len, byts_len]; exact J01.out
      have TT : Hid (∀ d os, Tabs (grow (redrawn Wb d) os) ∧ Prts (grow (redrawn Wb d) os) h2 0 QS ∧ St w (grow (redrawn Wb d) os) G ge PS.length gs YS) := fun d os => by
        have h := Ib.out.1.keep (below_regrown Wb d os)
        exact ⟨HA.out.2.2.2.2.2.keep h.below, Ib.out.2.2.2.keep (below_regrown Wb d os), h⟩
      have CQ : Hid ((catX QS).length < 1073741824 ∧ QS.length ≤ 1073741824) := ⟨by rw [KZ.out.2.2.1]; exact KZ.out.2.2.2.1, by rw [KZ.out.2.2.2.2.1]; exact Nat.le_of_lt HA.out.2.2.2.1⟩
      have S0 : Hid (∀ d os, Calls Tryd.prog 21 #[.slice a2 PS.length c2] (grow (redrawn Wb d) os) fun e w' => e = .returned (.agg (byts N0).toArray) ∧ Below (grow (redrawn Wb d) os).heap.size (grow (redrawn Wb d) os) w') := fun d os => by
        have h := rsum_any (cp := c2) CQ.out.1 CQ.out.2 KQ.out.1 KQ.out.2.1 _ (TT.out d os).2.1 (TT.out d os).1.2.1 (TT.out d os).1.2.2
        rw [KZ.out.2.2.1, digV_hL, DN.out.1, KZ.out.2.2.2.2.1] at h
        exact h
      have S1 : Hid (∀ d os, Calls Tryd.prog 22 #[.slice a2 PS.length c2] (grow (redrawn Wb d) os) fun e w' => e = .returned (.agg (byts N1).toArray) ∧ Below (grow (redrawn Wb d) os).heap.size (grow (redrawn Wb d) os) w') := fun d os => by
        have h := rsha_any (cp := c2) CQ.out.1 CQ.out.2 KQ.out.1 KQ.out.2.1 _ (TT.out d os).2.1 (TT.out d os).1.2.1 (TT.out d os).1.2.2
        rw [KZ.out.2.2.1, digV_hL, DN.out.2, KZ.out.2.2.2.2.1] at h
        exact h
      have S2 : Hid (∀ d os, Calls Tryd.prog 23 #[.slice (some ⟨G, 0, none⟩) PS.length (PS.length + 1), .slice a2 PS.length c2] (grow (redrawn Wb d) os) fun e w' => e = .returned (.bool true) ∧ Below (grow (redrawn Wb d) os).heap.size (grow (redrawn Wb d) os) w') := fun d os => by
        have h := (TT.out d os).2.2
        have k := stillAll_any (PS := QS) (cp := c2) (B := w.heap.size) (G := G) (ge := ge) (gs := gs) CQ.out.1 CQ.out.2 KQ.out.1 _ (TT.out d os).2.1 (by rw [KZ.out.2.2.2.2.1]; exact h.len) (by rw [← KZ.out.1]; exact h.lent) (by rw [KZ.out.2.2.2.2.1]; exact h.c1) h.c2
        rw [KZ.out.2.2.2.2.1] at k
        exact k
      refine wp_region_quiet_below (by kernel_rfl) (by kernel_rfl) ?_
      repeat
        first
          | go_big_quiet_skip
          | (go_big_quiet_want; go_big_quiet_op; go_big_quiet_on)
          | (go_big_quiet_want; refine quiet_load_mid 30 _ rfl g0 0 rfl (byts N0) _ ld0.out Tryd.underlying30 rfl (by rw [m0.out.1]; kernel_rfl) ?_; simp only [Act.put, List.setIfInBounds_toArray, List.set_cons_succ, List.set_cons_zero]; go_big_quiet_on)
          | (go_big_quiet_want; refine quiet_load_mid 30 _ rfl g1 0 rfl (byts N1) _ ld1.out Tryd.underlying30 rfl (by rw [m0.out.2]; kernel_rfl) ?_; simp only [Act.put, List.setIfInBounds_toArray, List.set_cons_succ, List.set_cons_zero]; go_big_quiet_on)
          | (go_big_quiet_want
             go_big_quiet_op
             apply Exists.intro
             refine ⟨fun p => ?_, ?_⟩
             · first
                 | (go_at_call 21; exact Calls.regrown_of (S0.out _ _))
                 | (go_at_call 22; exact Calls.regrown_of (S1.out _ _))
                 | (go_at_call 23; exact Calls.regrown_of (S2.out _ _))
             go_big_quiet_on)
      refine wpQuiet_nil ?_
      rintro wc ⟨p, rfl⟩
      have hb := Ib.out.1.below.trans ((below_regrown Wb p.d p.os).mono Ib.out.1.below.size)
      generalize grow (redrawn Wb p.d) p.os = wc at *
      go_wp2
      go_ret
      exact ⟨rfl, hb⟩
    · have hlt : i < PS.length := by omega
      have hib : (i : Int) < 1073741824 := by omega
      have hq0 : QS ≠ [] := fun e => by have := KZ.out.2.2.2.2.1; rw [e] at this; simp at this; omega
      have ea : a2 = some ⟨h2, 0, none⟩ := by
        rcases KQ.out.1 with h | h
        · exact absurd h hq0
        · exact h
      subst ea
      obtain ⟨q, kq⟩ : ∃ q, q = QS.getD i .none := ⟨_, rfl⟩
      have hiq : i < QS.length := by have := KZ.out.2.2.2.2.1; omega
      have eq : ZS.getD i [] = q.X := by rw [KZ.out.1, kq]; simp [List.getD, hiq]
      have gq := (HF.out.2.2.2 i hiq).1
      have okq := (HF.out.2.2.2 i hiq).2
      rw [← kq] at gq okq
      rw [Nat.zero_add, Part.val] at gq
      have hl := HF.out.1.lent i (by rw [HF.out.1.len]; exact hlt)
      have gl := hl.1
      have ey : (YS.getD i []).length = q.X.length := by rw [HY.out.2.2 i (Nat.le_refl _), ← eq]; exact (KZ.out.2.2.2.2.2 i).symm
      obtain ⟨Yi, kY⟩ : ∃ Yi, Yi = YS.getD i [] := ⟨_, rfl⟩
      rw [← kY] at gl ey hl
      have OK : Hid (At q.a q.b q.o q.X ∧ Byo wr q.b q.o q.X ∧ Row8 wr (gs.getD i 0) (Yi ++ List.replicate 200 195) ∧ q.X.length = Yi.length ∧ ZS.getD i [] = q.X ∧ Yi = YS.getD i []) := ⟨okq.1, okq.2.2, hl.2.2.1, ey.symm, eq, kY⟩
      have NG : Hid (h2 ≠ gs.getD i 0 ∧ (∀ p ∈ QS, p.X = [] ∨ p.b ≠ gs.getD i 0) ∧ gs.getD i 0 ≠ g0 ∧ gs.getD i 0 ≠ g1) := by
        rcases KQ.out.2.2 _ (N6.out.1 i hlt) with h | h
        · exact absurd h hq0
        · exact ⟨h.1, h.2, NE.out.2.2.2.1 i hlt⟩
      clear kq eq okq hl ey kY hq0 hiq
      obtain ⟨g, kg⟩ : ∃ g, g = gs.getD i 0 := ⟨_, rfl⟩
      rw [← kg] at gl OK NG
      have KG : Hid (g = gs.getD i 0) := kg
      clear kg
      go_wp2_with fail
      refine region_tail 8 (by kernel_rfl) (by kernel_rfl) ?_
      simp only [List.take_succ_cons, List.take_zero, List.drop_succ_cons, List.drop_zero]
      repeat (first | go_big_quiet_skip | (go_big_quiet_want; go_big_quiet_op; go_big_quiet_on))
      refine wpQuiet_nil ?_
      refine wpList_copy_row8 rfl _ _ 27 27 rfl 5 Tryd.underlying27 (by kernel_rfl) rfl rfl rfl rfl OK.out.2.2.2.1 (T := List.replicate 200 195) ⟨OK.out.2.2.1.1, OK.out.2.2.1.2⟩ OK.out.1 OK.out.2.1 ?_
      intro w8 hr8 ho8
      have ho : Off g wr w8 := (Off.refl g wr).drew.trans ho8
      have I8 : Hid (St w w8 G ge PS.length gs (YS.set i q.X) ∧ Hsh w8 g0 M0 ∧ Hsh w8 g1 M1 ∧ Prts w8 h2 0 QS) :=
        ⟨HF.out.1.copied HY.out.1 hlt (by rw [← OK.out.2.2.2.2.2]; exact OK.out.2.2.2.1) (by rw [← KG.out]; exact hr8) (by rw [← KG.out]; exact ho), HF.out.2.1.off ho NG.out.2.2.1.symm, HF.out.2.2.1.off ho NG.out.2.2.2.symm, HF.out.2.2.2.off NG.out.1 NG.out.2.1 ho⟩
      clear hr8 ho8 ho gl gq
      go_wp2
      go_roundg (PS.length - (i + 1))
      case measure => have := HK.out; omega
      case rel =>
        refine ⟨i + 1, YS.set i q.X, rfl, by omega, by go_num, by rw [List.length_set]; exact HY.out.1, fun j hj => ?_, fun j hj => ?_, I8.out⟩
        · by_cases e : j = i
          · subst e
            rw [OK.out.2.2.2.2.1]
            simp [List.getD, HY.out.1, hlt]
          · rw [← HY.out.2.1 j (by omega)]
            simp [List.getD, List.getElem?_set_ne (Ne.symm e)]
        · rw [← HY.out.2.2 j (by omega)]
          simp [List.getD, List.getElem?_set_ne (show i ≠ j by omega)]

end Go.Proofs.YtcgibaggponfnaaDoor

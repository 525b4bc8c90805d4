import Derived.Test.YtnjmdncnkijijaaDoorEPR
namespace Go.Proofs.YtnjmdncnkijijaaDoor
open Go.RowKit Go.Sort

theorem rep_doc (X : List Int) {i : Nat} (h : i < X.length) : X.reverse.getD i 0 = X.getD (X.length - 1 - i) 0 := by
  rw [List.getD, List.getD, List.getElem?_reverse h]
theorem lentE_set (L : List Int) {i : Nat} (h : i < L.length) (u : Int) : (lentE L).set i u = lentE (L.set i u) := by
  rw [lentE, lentE, List.set_append_left _ _ h]
theorem famE {B n : Nat} {W : World} {V : Nat → Value} {F : Nat → List Int} (cs : Array Value) (t : TypeId) (hc : ∀ i, i < n → cs[i]? = some (V i)) (ho : ∀ i, i < n → OwnB B W (V i) (F i)) (dis : ∀ i j k, i < n → j < n → i ≠ j → (V i).ownBlock = some k → (V j).ownBlock ≠ some k) : Fam B (W.alloc (.cells cs t)) W.heap.size n V F 0 where
  cell := fun i hi => by rw [World.cell?_alloc_mark]; exact hc i hi
  rd := fun i hi => ((ho i hi).alloc _).rd
  own := fun i _ hi => (ho i hi).alloc _
  dis := dis
  far := fun i k hi hk e => by have := ((ho i hi).lt k hk).2; omega
theorem Many.belowE {B n : Nat} {w w' : World} {V : Nat → Value} (h : Many w w' n V) (hB : B ≤ w.heap.size) (hv : ∀ i k, i < n → (V i).ownBlock = some k → B ≤ k) : Below B w w' :=
  ⟨h.os, h.tape, h.output, h.size, fun k hk => h.block k (by omega) (fun i hi e => by have := hv i k hi e; omega)⟩
/-- Of three. -/
def pick3e {α : Type} (x y z : α) (i : Nat) : α := if i = 0 then x else if i = 1 then y else z
theorem byts_rev {X : List Int} (h : Byts X) : Byts X.reverse := fun i => by
  by_cases k : i < X.length
  · rw [rep_doc X k]; exact h _
  · rw [List.getD, List.getElem?_eq_none (by rw [List.length_reverse]; omega)]
    exact ⟨by decide, by decide⟩
theorem same_own {B1 B2 : Nat} {v1 v2 : Value} {L : List Int} (hl : L.length ≤ 64) (w : World) (h1 : OwnB B1 w v1 L) (h2 : OwnB B2 w v2 L) :
    Calls Tryd.prog 6 #[v1, v2] w fun e w' => e = .returned (.bool true) ∧ Below w.heap.size w w' := by
  obtain ⟨a1, g1, c1, rfl, _, z1, y1, _⟩ := h1.lies
  obtain ⟨a2, g2, c2, rfl, _, z2, y2, _⟩ := h2.lies
  have h := esame_any (c := c1) (c' := c2) (by omega) z1 z2 w y1 y2
  rw [decide_eq_true rfl] at h
  exact h
set_option maxRecDepth 100000 in
set_option maxHeartbeats 32000000 in
theorem epacks_any {a : Option Addr} {bb ob c : Nat} {X : List Int} {r s : Int} {o : Bool} (hr : Num r) (hs : Num s) (hm2 : X.length ≤ 140737488351232) (hX : Byts X) (lc : X.length ≤ c) (hZ : Az a bb ob X) (w : World) (hm : Mds w) (hz : Bz w bb ob X) :
    Calls Tryd.prog 3 #[.agg #[.int .u64 (l0 r), .int .u64 (l1 r), .int .u64 (l2 r), .int .u64 (l3 r), .int .u64 (l0 s), .int .u64 (l1 s), .int .u64 (l2 s), .int .u64 (l3 s), .bool o], .slice a X.length c] w fun e w' => e = .returned (.bool true) ∧ Below w.heap.size w w' := by
  have hY := byts_rev hX
  have LP : Hid ((pkL r s o).length ≤ 64) := pkL_len r s o
  have LQ : Hid ((pkL (uR X.reverse) (uS X.reverse) (uO X.reverse)).length ≤ 64) := pkL_len _ _ _
  have PK : Hid (∀ W, Below w.heap.size w W → Calls Tryd.prog 4 #[.agg #[.int .u64 (l0 r), .int .u64 (l1 r), .int .u64 (l2 r), .int .u64 (l3 r), .int .u64 (l0 s), .int .u64 (l1 s), .int .u64 (l2 s), .int .u64 (l3 s), .bool o]] W fun e w' => ∃ v, e = .returned (.tuple #[v, .int .i64 (chkN r s)]) ∧ OwnB W.heap.size w' v (pkL r s o) ∧ Below W.heap.size W w') := fun W B => pack_all hr hs W (hm.keep B)
  have RP : Hid (∀ W, Below w.heap.size w W → Calls Tryd.prog 5 #[.agg #[.int .u64 (l0 r), .int .u64 (l1 r), .int .u64 (l2 r), .int .u64 (l3 r), .int .u64 (l0 s), .int .u64 (l1 s), .int .u64 (l2 s), .int .u64 (l3 s), .bool o]] W fun e w' => ∃ v, e = .returned (.tuple #[v, .int .i64 (chkN r s)]) ∧ OwnB W.heap.size w' v (pkL r s o) ∧ Below W.heap.size W w') := fun W B => rpack_all hr hs W
  have PK2 : Hid (∀ W, Below w.heap.size w W → Calls Tryd.prog 4 #[.agg #[.int .u64 (l0 (uR X.reverse)), .int .u64 (l1 (uR X.reverse)), .int .u64 (l2 (uR X.reverse)), .int .u64 (l3 (uR X.reverse)), .int .u64 (l0 (uS X.reverse)), .int .u64 (l1 (uS X.reverse)), .int .u64 (l2 (uS X.reverse)), .int .u64 (l3 (uS X.reverse)), .bool (uO X.reverse)]] W fun e w' => ∃ v, e = .returned (.tuple #[v, .int .i64 (chkN (uR X.reverse) (uS X.reverse))]) ∧ OwnB W.heap.size w' v (pkL (uR X.reverse) (uS X.reverse) (uO X.reverse)) ∧ Below W.heap.size W w') := fun W B => pack_all (uR_num hY) (uS_num hY) W (hm.keep B)
  have RP2 : Hid (∀ W, Below w.heap.size w W → Calls Tryd.prog 5 #[.agg #[.int .u64 (l0 (uR X.reverse)), .int .u64 (l1 (uR X.reverse)), .int .u64 (l2 (uR X.reverse)), .int .u64 (l3 (uR X.reverse)), .int .u64 (l0 (uS X.reverse)), .int .u64 (l1 (uS X.reverse)), .int .u64 (l2 (uS X.reverse)), .int .u64 (l3 (uS X.reverse)), .bool (uO X.reverse)]] W fun e w' => ∃ v, e = .returned (.tuple #[v, .int .i64 (chkN (uR X.reverse) (uS X.reverse))]) ∧ OwnB W.heap.size w' v (pkL (uR X.reverse) (uS X.reverse) (uO X.reverse)) ∧ Below W.heap.size W w') := fun W B => rpack_all (uR_num hY) (uS_num hY) W
  have E1 := eq_sig_yes (i := uO X) (uR_num hX) (uS_num hX)
  have E2 := eq_sig_yes (i := uO X.reverse) (uR_num hY) (uS_num hY)
  have LE : Hid (∀ W, Below w.heap.size w W → Calls Tryd.prog 8 #[.slice a X.length c] W fun e w' => ∃ g cap, e = .returned (.slice (some ⟨g, 0, none⟩) X.length cap) ∧ OwnB W.heap.size w' (.slice (some ⟨g, 0, none⟩) (X.length + 70) cap) (lentE X) ∧ Below W.heap.size W w') := fun W B => elent_any hm2 hZ W (hz.keep B)
  have UN : Hid (∀ W g cap, Below w.heap.size w W → X.length ≤ cap → Bz W g 0 X → Calls Tryd.prog 9 #[.slice (some ⟨g, 0, none⟩) X.length cap] W fun e w' => e = .returned (.tuple #[.agg #[.int .u64 (l0 (uR X)), .int .u64 (l1 (uR X)), .int .u64 (l2 (uR X)), .int .u64 (l3 (uR X)), .int .u64 (l0 (uS X)), .int .u64 (l1 (uS X)), .int .u64 (l2 (uS X)), .int .u64 (l3 (uS X)), .bool (uO X)], .int .i64 (uE X)]) ∧ Below W.heap.size W w') := fun W g cap B h1 h2 => unpack_all hX h1 W (hm.keep B) h2
  have RU : Hid (∀ W, Below w.heap.size w W → Calls Tryd.prog 10 #[.slice a X.length c] W fun e w' => e = .returned (.tuple #[.agg #[.int .u64 (l0 (uR X)), .int .u64 (l1 (uR X)), .int .u64 (l2 (uR X)), .int .u64 (l3 (uR X)), .int .u64 (l0 (uS X)), .int .u64 (l1 (uS X)), .int .u64 (l2 (uS X)), .int .u64 (l3 (uS X)), .bool (uO X)], .int .i64 (uE X)]) ∧ Below W.heap.size W w') := fun W B => runp_all hX lc hZ W (hz.keep B)
  have UN2 : Hid (∀ W g cap, Below w.heap.size w W → X.length ≤ cap → Bz W g 0 X.reverse → Calls Tryd.prog 9 #[.slice (some ⟨g, 0, none⟩) X.length cap] W fun e w' => e = .returned (.tuple #[.agg #[.int .u64 (l0 (uR X.reverse)), .int .u64 (l1 (uR X.reverse)), .int .u64 (l2 (uR X.reverse)), .int .u64 (l3 (uR X.reverse)), .int .u64 (l0 (uS X.reverse)), .int .u64 (l1 (uS X.reverse)), .int .u64 (l2 (uS X.reverse)), .int .u64 (l3 (uS X.reverse)), .bool (uO X.reverse)], .int .i64 (uE X.reverse)]) ∧ Below W.heap.size W w') := fun W g cap B h1 h2 => by
    have h := unpack_all (cap := cap) hY (by rw [List.length_reverse]; exact h1) W (hm.keep B) h2
    rw [List.length_reverse] at h
    exact h
  have CP : Hid (∀ W g cap, Bz W g 0 X.reverse → Calls Tryd.prog 12 #[.slice (some ⟨g, 0, none⟩) X.length cap] W fun e w' => ∃ v, e = .returned v ∧ OwnB W.heap.size w' v X.reverse ∧ Below W.heap.size W w') := fun W g cap h2 => by
    have h := ecopied_any (cd := cap) (by rw [List.length_reverse]; omega) (.inr rfl) W h2
    rw [List.length_reverse] at h
    exact h
  have RU2 : Hid (∀ W B' v, OwnB B' W v X.reverse → Calls Tryd.prog 10 #[v] W fun e w' => e = .returned (.tuple #[.agg #[.int .u64 (l0 (uR X.reverse)), .int .u64 (l1 (uR X.reverse)), .int .u64 (l2 (uR X.reverse)), .int .u64 (l3 (uR X.reverse)), .int .u64 (l0 (uS X.reverse)), .int .u64 (l1 (uS X.reverse)), .int .u64 (l2 (uS X.reverse)), .int .u64 (l3 (uS X.reverse)), .bool (uO X.reverse)], .int .i64 (uE X.reverse)]) ∧ Below W.heap.size W w') := fun W B' v h => by
    obtain ⟨a1, g1, c1, rfl, h1, z1, y1, _⟩ := h.lies
    exact runp_all hY h1 z1 W y1
  have ST : Hid (∀ W g cap, Below w.heap.size w W → X.length + 70 ≤ cap → Bz W g 0 (lentE X) → Calls Tryd.prog 11 #[.slice (some ⟨g, 0, none⟩) X.length cap, .slice a X.length c] W fun e w' => e = .returned (.bool true) ∧ Below W.heap.size W w') := fun W g cap B h1 h2 => estill_any (by omega) hZ W h1 h2 (hz.keep B)
  have NU : Hid (∀ (v : Int) (w : World), Calls Tryd.prog 7 #[.int .i64 v] w fun e w' => e = .returned (.int .i64 v) ∧ Below w.heap.size w w') := fun v w => lnum6_any v w
  have HZ : Hid (Az a bb ob X ∧ ∀ W, Below w.heap.size w W → Bz W bb ob X) := ⟨hZ, fun W B => hz.keep B⟩
  obtain ⟨m, em⟩ : ∃ m, m = X.length := ⟨_, rfl⟩
  rw [← em] at hm2 lc LE UN RU UN2 CP ST ⊢
  have HM : Hid (X.length = m ∧ m ≤ 140737488351232) := ⟨em.symm, hm2⟩
  have lm : (m : Int) ≤ 140737488351232 := by omega
  have lmc : (m : Int) ≤ (c : Int) := by omega
  clear em hX hY hZ hz hm hr hs hm2
  generalize pkL (uR X.reverse) (uS X.reverse) (uO X.reverse) = QL at *
  generalize pkL r s o = PL at *
  generalize chkN (uR X.reverse) (uS X.reverse) = QE at *
  generalize chkN r s = PE at *
  generalize uR X.reverse = vr at *
  generalize uS X.reverse = vs at *
  generalize uO X.reverse = vo at *
  generalize uE X.reverse = vE at *
  generalize uR X = tr at *
  generalize uS X = ts at *
  generalize uO X = t0 at *
  generalize uE X = tE at *
  go_enter Tryd.func3, Tryd.ntmps3
  go_wp2_with fail
  refine calls_world (fun W => Below w.heap.size w W ∧ Pnt W w.heap.size r s o) ⟨by repeat (first | with_reducible exact Below.refl _ _ | with_reducible refine Below.alloc ?_ (by first | omega | (simp; done) | (simp; omega)) _), Pnt.new rfl⟩ ?_
  rintro W1 ⟨BB, hP⟩
  have z1 : Hid (w.heap.size ≤ W1.heap.size) := BB.size
  with_reducible refine (PK.out W1 BB).mono ?_
  rintro e w2 ⟨v5, rfl, o5, hb⟩
  replace BB := BB.trans (hb.mono BB.size)
  replace hP := hP.keep hb
  have z2 := hb.size
  clear hb
  have gP := hP.cells
  go_wp2_with fail
  with_reducible refine (RP.out w2 BB).mono ?_
  rintro e w3 ⟨v7, rfl, o7, hb⟩
  replace BB := BB.trans (hb.mono BB.size)
  replace hP := hP.keep hb
  replace o5 := o5.keep hb
  have z3 := hb.size
  clear hb
  clear gP
  go_wp2_with fail
  with_reducible refine (same_own LP.out w3 o5 o7).mono ?_
  rintro e w4 ⟨rfl, hb⟩
  replace BB := BB.trans (hb.mono BB.size)
  replace hP := hP.keep hb
  replace o5 := o5.keep hb
  replace o7 := o7.keep hb
  have z4 := hb.size
  clear hb
  go_wp2_with fail
  with_reducible refine (NU.out _ w4).mono ?_
  rintro e W3 ⟨rfl, hb⟩
  replace BB := BB.trans (hb.mono BB.size)
  replace hP := hP.keep hb
  replace o5 := o5.keep hb
  replace o7 := o7.keep hb
  have z5 := hb.size
  clear hb
  have S3 : Hid (w.heap.size ≤ W1.heap.size ∧ W1.heap.size ≤ w2.heap.size ∧ w2.heap.size ≤ W3.heap.size) := ⟨z1.out, z2, by omega⟩
  have I5 : Hid (∀ k, v5.ownBlock = some k → w.heap.size ≤ k ∧ k < W3.heap.size) := fun k hk => ⟨Nat.le_trans S3.out.1 (o5.lt k hk).1, (o5.lt k hk).2⟩
  have K3 : Hid (Below w.heap.size w W3 ∧ Pnt W3 w.heap.size r s o ∧ OwnB w.heap.size W3 v5 PL ∧ OwnB w.heap.size W3 v7 PL) := ⟨BB, hP, o5.base S3.out.1, o7.base (Nat.le_trans S3.out.1 S3.out.2.1)⟩
  clear hP o5 o7 S3 z1 z2 z3 z4 z5 W1 w2 w3 w4
  go_wp2_with fail
  with_reducible refine (LE.out W3 BB).mono ?_
  rintro e w5 ⟨g, cap, rfl, oG, B3⟩
  clear BB
  have lG : Hid (m + 70 ≤ cap ∧ W3.heap.size ≤ g) := by
    obtain ⟨a1, g1, c1, e1, h1, _⟩ := oG.lies
    injection e1 with _ _ e2
    rw [lentE_len, HM.out.1] at h1
    exact ⟨by omega, (oG.lt g rfl).1⟩
  have lcap : (m : Int) ≤ (cap : Int) := by have := lG.out; omega
  have zG : ∀ {W : World} {L : List Int}, L.length = m → OwnB W3.heap.size W (.slice (some ⟨g, 0, none⟩) (m + 70) cap) (lentE L) → Bz W g 0 (lentE L) := fun {W L} hl h => fun i hi => by
    rw [Nat.zero_add]
    rw [lentE_len, hl] at hi
    exact h.cell (by rw [lentE_len, hl]) hi
  have ZG : Hid (∀ {W : World} {L : List Int}, L.length = m → OwnB W3.heap.size W (.slice (some ⟨g, 0, none⟩) (m + 70) cap) (lentE L) → Bz W g 0 (lentE L)) := fun {W L} => zG (W := W) (L := L)
  clear zG
  have UP : Hid (∀ W, Below W3.heap.size W3 W → Below w.heap.size w W) := fun W B => K3.out.1.trans (B.mono K3.out.1.size)
  go_wp2_with fail
  with_reducible refine (UN.out w5 g cap (UP.out w5 B3) (by have := lG.out; omega) (ZG.out HM.out.1 oG).front).mono ?_
  rintro e w6 ⟨rfl, hb⟩
  replace B3 := B3.trans (hb.mono B3.size)
  replace oG := oG.keep hb
  clear hb
  go_wp2_with fail
  refine calls_world (fun W => Below W3.heap.size W3 W ∧ OwnB W3.heap.size W (.slice (some ⟨g, 0, none⟩) (m + 70) cap) (lentE X) ∧ Pnt W w6.heap.size tr ts t0) ⟨B3.alloc B3.size _, oG.alloc _, Pnt.new rfl⟩ ?_
  clear B3 oG
  rintro W7 ⟨B3, oG, h10⟩
  generalize w6.heap.size = b10 at *
  clear w6 w5
  with_reducible refine (RU.out W7 (UP.out W7 B3)).mono ?_
  rintro e w8 ⟨rfl, hb⟩
  replace B3 := B3.trans (hb.mono B3.size)
  replace oG := oG.keep hb
  replace h10 := h10.keep hb
  clear hb W7
  have g10 := fun o => (h10.alloc o).cells
  go_wp2_with fail
  refine calls_world (fun W => Below W3.heap.size W3 W ∧ OwnB W3.heap.size W (.slice (some ⟨g, 0, none⟩) (m + 70) cap) (lentE X)) ⟨B3.alloc B3.size _, oG.alloc _⟩ ?_
  clear B3 oG h10 g10
  rintro W9 ⟨B3, oG⟩
  generalize w8.heap.size = b12 at *
  clear w8
  with_reducible refine (NU.out _ W9).mono ?_
  rintro e w10 ⟨rfl, hb⟩
  replace B3 := B3.trans (hb.mono B3.size)
  replace oG := oG.keep hb
  clear hb W9
  go_wp2_with fail
  with_reducible refine (ST.out w10 g cap (UP.out w10 B3) lG.out.1 (ZG.out HM.out.1 oG)).mono ?_
  rintro e w11 ⟨rfl, hb⟩
  replace B3 := B3.trans (hb.mono B3.size)
  replace oG := oG.keep hb
  clear hb w10
  go_wp2_with fail
  go_loopg [14] m (fun k iv wr => ∃ i : Nat, k = m - i ∧ i ≤ m ∧ iv = .int .i64 i ∧ OwnB W3.heap.size wr (.slice (some ⟨g, 0, none⟩) (m + 70) cap) (lentE (partw X.reverse X i)) ∧ Below W3.heap.size W3 wr)
  case atStart => exact ⟨0, rfl, Nat.zero_le _, rfl, by rw [partw_zero]; exact oG, B3⟩
  case round =>
    clear oG B3 w11
    obtain ⟨i, hk, hi, rfl, oG, B3⟩ := hrel
    have HK : Hid (gk = m - i) := hk
    clear hk
    by_cases h8 : i = m
    · have h8' := h8.symm
      subst h8'
      have lr : Hid (X.reverse.length = m) := by show _ = _; rw [List.length_reverse]; exact HM.out.1
      have oR : OwnB W3.heap.size wr (.slice (some ⟨g, 0, none⟩) (m + 70) cap) (lentE X.reverse) := by
        have h := oG
        rw [show partw X.reverse X m = X.reverse from by rw [← HM.out.1]; exact partw_all (by rw [List.length_reverse])] at h
        exact h
      clear oG HK
      go_wp2_with fail
      with_reducible refine (UN2.out wr g cap (UP.out wr B3) (by have := lG.out; omega) (ZG.out lr.out oR).front).mono ?_
      rintro e w12 ⟨rfl, hb⟩
      replace B3 := B3.trans (hb.mono B3.size)
      replace oR := oR.keep hb
      clear hb
      go_wp2_with fail
      refine calls_world (fun W => Below W3.heap.size W3 W ∧ OwnB W3.heap.size W (.slice (some ⟨g, 0, none⟩) (m + 70) cap) (lentE X.reverse) ∧ Pnt W w12.heap.size vr vs vo) ⟨B3.alloc B3.size _, oR.alloc _, Pnt.new rfl⟩ ?_
      clear B3 oR
      rintro W13 ⟨B3, oR, h15⟩
      generalize w12.heap.size = b15 at *
      clear w12
      with_reducible refine (CP.out W13 g cap (ZG.out lr.out oR).front).mono ?_
      rintro e w14 ⟨v96, rfl, o96, hb⟩
      replace B3 := B3.trans (hb.mono B3.size)
      replace h15 := h15.keep hb
      clear hb oR
      go_wp2_with fail
      with_reducible refine (RU2.out w14 _ v96 o96).mono ?_
      rintro e w15 ⟨rfl, hb⟩
      replace B3 := B3.trans (hb.mono B3.size)
      replace h15 := h15.keep hb
      clear hb o96
      have g15 := fun o => (h15.alloc o).cells
      go_wp2_with fail
      refine calls_world (fun W => Below W3.heap.size W3 W ∧ Pnt W b15 vr vs vo ∧ Pnt W w15.heap.size vr vs vo) ⟨B3.alloc B3.size _, h15.alloc _, Pnt.new rfl⟩ ?_
      clear B3 h15 g15
      rintro W16 ⟨B3, h15, h17⟩
      generalize w15.heap.size = b17 at *
      clear w15
      with_reducible refine (NU.out _ W16).mono ?_
      rintro e w17 ⟨rfl, hb⟩
      replace B3 := B3.trans (hb.mono B3.size)
      replace h15 := h15.keep hb
      replace h17 := h17.keep hb
      clear hb W16
      have z17 : Hid (W3.heap.size ≤ w17.heap.size) := B3.size
      have gP := (K3.out.2.1.keep B3).cells
      go_wp2_with fail
      with_reducible refine (PK.out w17 (UP.out w17 B3)).mono ?_
      rintro e w18 ⟨v19, rfl, o19, hb⟩
      replace B3 := B3.trans (hb.mono B3.size)
      replace h15 := h15.keep hb
      replace h17 := h17.keep hb
      have z18 : Hid (w17.heap.size ≤ w18.heap.size) := hb.size
      have I19 : Hid (∀ k, v19.ownBlock = some k → w17.heap.size ≤ k ∧ k < w18.heap.size) := fun k hk => o19.lt k hk
      clear hb gP
      have g15 := h15.cells
      go_wp2_with fail
      with_reducible refine (PK2.out w18 (UP.out w18 B3)).mono ?_
      rintro e w19 ⟨v21, rfl, o21, hb⟩
      replace B3 := B3.trans (hb.mono B3.size)
      replace h17 := h17.keep hb
      replace o19 := o19.keep hb
      have z19 : Hid (w18.heap.size ≤ w19.heap.size) := hb.size
      have I21 : Hid (∀ k, v21.ownBlock = some k → w18.heap.size ≤ k ∧ k < w19.heap.size) := fun k hk => o21.lt k hk
      clear hb g15 h15
      have g17 := h17.cells
      go_wp2_with fail
      with_reducible refine (RP2.out w19 (UP.out w19 B3)).mono ?_
      rintro e w20 ⟨v23, rfl, o23, hb⟩
      replace B3 := B3.trans (hb.mono B3.size)
      replace o19 := o19.keep hb
      replace o21 := o21.keep hb
      clear hb g17 h17
      have o5 := K3.out.2.2.1.keep B3
      have o7 := K3.out.2.2.2.keep B3
      obtain ⟨a5, _, c5, e5, _⟩ := o5.lies
      obtain ⟨a19, _, c19, e19, _⟩ := o19.lies
      obtain ⟨a21, _, c21, e21, _⟩ := o21.lies
      subst e5 e19 e21
      go_wp2_with fail
      with_reducible refine (same_own LP.out w20 o19 o7).mono ?_
      rintro e w21 ⟨rfl, hb⟩
      replace B3 := B3.trans (hb.mono B3.size)
      replace o5 := o5.keep hb
      replace o19 := o19.keep hb
      replace o21 := o21.keep hb
      replace o23 := o23.keep hb
      clear hb o7
      go_wp2_with fail
      with_reducible refine (NU.out _ w21).mono ?_
      rintro e w22 ⟨rfl, hb⟩
      replace B3 := B3.trans (hb.mono B3.size)
      replace o5 := o5.keep hb
      replace o19 := o19.keep hb
      replace o21 := o21.keep hb
      replace o23 := o23.keep hb
      clear hb
      go_wp2_with fail
      with_reducible refine (same_own LQ.out w22 o21 o23).mono ?_
      rintro e w23 ⟨rfl, hb⟩
      replace B3 := B3.trans (hb.mono B3.size)
      replace o5 := o5.keep hb
      replace o19 := o19.keep hb
      replace o21 := o21.keep hb
      clear hb o23
      go_wp2_with fail
      with_reducible refine (NU.out _ w23).mono ?_
      rintro e w24 ⟨rfl, hb⟩
      replace B3 := B3.trans (hb.mono B3.size)
      replace o5 := o5.keep hb
      replace o19 := o19.keep hb
      replace o21 := o21.keep hb
      clear hb
      go_wp2_with fail
      have BB := UP.out w24 B3
      have l0' : w.heap.size ≤ W3.heap.size := K3.out.1.size
      have hf := famE (B := w.heap.size) (n := 3) (W := w24) (V := pick3e (.slice a5 PL.length c5) (.slice a19 PL.length c19) (.slice a21 QL.length c21)) (F := pick3e PL PL QL) #[.slice a5 PL.length c5, .slice a19 PL.length c19, .slice a21 QL.length c21] 27
        (fun i hi => by
          have e : i = 0 ∨ i = 1 ∨ i = 2 := by omega
          rcases e with rfl | rfl | rfl <;> rfl)
        (fun i hi => by
          have e : i = 0 ∨ i = 1 ∨ i = 2 := by omega
          have := z17.out
          have := z18.out
          rcases e with rfl | rfl | rfl
          · exact o5
          · exact o19.base (by omega)
          · exact o21.base (by omega))
        (fun i j k hi hj ne h1 h2 => by
          have e : i = 0 ∨ i = 1 ∨ i = 2 := by omega
          have e' : j = 0 ∨ j = 1 ∨ j = 2 := by omega
          have := z17.out
          have := z18.out
          rcases e with rfl | rfl | rfl <;> rcases e' with rfl | rfl | rfl <;> first | exact absurd rfl ne | (have q1 := I5.out k h1; have q2 := I19.out k h2; omega) | (have q1 := I5.out k h1; have q2 := I21.out k h2; omega) | (have q1 := I19.out k h1; have q2 := I5.out k h2; omega) | (have q1 := I19.out k h1; have q2 := I21.out k h2; omega) | (have q1 := I21.out k h1; have q2 := I5.out k h2; omega) | (have q1 := I21.out k h1; have q2 := I19.out k h2; omega))
      have hv : Hid (∀ i k, i < 3 → (pick3e (Value.slice a5 PL.length c5) (.slice a19 PL.length c19) (.slice a21 QL.length c21) i).ownBlock = some k → w.heap.size ≤ k ∧ k < w24.heap.size) := fun i k hi hk => by
        have e : i = 0 ∨ i = 1 ∨ i = 2 := by omega
        have := z17.out
        have := z18.out
        rcases e with rfl | rfl | rfl
        · exact ⟨(I5.out k hk).1, (o5.lt k hk).2⟩
        · have q := o19.lt k hk; exact ⟨by omega, q.2⟩
        · have q := o21.lt k hk; exact ⟨by omega, q.2⟩
      have BB2 : Below w.heap.size w (w24.alloc (.cells #[.slice a5 PL.length c5, .slice a19 PL.length c19, .slice a21 QL.length c21] 27)) := BB.alloc BB.size _
      refine calls_world (fun W => Fam w.heap.size W w24.heap.size 3 (pick3e (Value.slice a5 PL.length c5) (.slice a19 PL.length c19) (.slice a21 QL.length c21)) (pick3e PL PL QL) 0 ∧ Below w.heap.size w W ∧ w24.heap.size < W.heap.size) ⟨hf, BB2, by simp⟩ ?_
      clear hf BB2 o5 o19 o21 BB B3
      rintro W25 ⟨hf, BB, hs⟩
      with_reducible refine (apm_any (cl := 3) (by decide) (fun i hi => by
          have h1 := LP.out
          have h2 := LQ.out
          have e : i = 0 ∨ i = 1 ∨ i = 2 := by omega
          rcases e with rfl | rfl | rfl <;> simp [pick3e] <;> omega) W25 BB.size hs hf (fun i k hi hk => by have := hv.out i k hi hk; omega)).mono ?_
      rintro e W26 ⟨rfl, hmn⟩
      have B9 : Hid (Below w.heap.size w W26) := BB.trans (hmn.belowE BB.size (fun i k hi hk => (hv.out i k hi hk).1))
      clear hf hmn BB hs
      go_wp2
      simp [bodyPost, results, Tryd.results3, go_sem]
      exact B9.out
    · have hlt : i < m := by omega
      have hlt' : (i : Int) < (m : Int) := by omega
      have pl : (partw X.reverse X i).length = m := by rw [partw_len (by rw [List.length_reverse]), HM.out.1]
      obtain rfl := HZ.out.1.cons (by rw [HM.out.1]; omega)
      have gx := HZ.out.2 wr (UP.out wr B3) (m - 1 - i) (by rw [HM.out.1]; omega)
      have er : X.getD (m - 1 - i) 0 = X.reverse.getD i 0 := by rw [rep_doc X (by rw [HM.out.1]; exact hlt), HM.out.1]
      rw [er] at gx
      have cg := oG.cell (by rw [lentE_len, pl]) (i := i) (by omega)
      have fg := oG.free (by rw [lentE_len, pl]) i
      have hset := oG.set (by rw [lentE_len, pl]) i (X.reverse.getD i 0)
      have NX : Hid (OwnB W3.heap.size (wr.setCell ⟨g, i, none⟩ (.int .u8 (X.reverse.getD i 0))) (.slice (some ⟨g, 0, none⟩) (m + 70) cap) (lentE (partw X.reverse X (i + 1))) ∧ Below W3.heap.size W3 (wr.setCell ⟨g, i, none⟩ (.int .u8 (X.reverse.getD i 0)))) := by
        refine ⟨?_, B3.setCell lG.out.2 _⟩
        have h := hset.1
        rw [lentE_set _ (by omega), partw_set (by rw [List.length_reverse]) (by rw [HM.out.1]; exact hlt)] at h
        exact h
      clear hset oG B3 er pl
      generalize X.reverse.getD i 0 = x at *
      generalize (lentE (partw X.reverse X i)).getD i 0 = x0 at *
      have e1 : ((m : Int) - 1 - (i : Int)).toNat = m - 1 - i := by omega
      have e2 : (0 : Int) ≤ (m : Int) - 1 - (i : Int) := by omega
      have e3 : (m : Int) - 1 - (i : Int) < (m : Int) := by omega
      go_wp2
      go_roundg (m - (i + 1))
      case measure => have := HK.out; omega
      case rel => exact ⟨i + 1, rfl, by omega, by go_num, NX.out⟩
end Go.Proofs.YtnjmdncnkijijaaDoor

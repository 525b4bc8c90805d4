import Derived.Test.YtmpggpkokniemaaDoorEBU
namespace Go.Proofs.YtmpggpkokniemaaDoor
open Go.RowKit Go.Sort

theorem famN {B n : Nat} {W : World} {V : Nat → Value} {F : Nat → List Int} (cs : Array Value) (t : TypeId) (hc : ∀ i, i < n → cs[i]? = some (V i)) (ho : ∀ i, i < n → OwnB B W (V i) (F i)) (dis : ∀ i j k, i < n → j < n → i ≠ j → (V i).ownBlock = some k → (V j).ownBlock ≠ some k) : Fam B (W.alloc (.cells cs t)) W.heap.size n V F 0 where
  cell := fun i hi => by rw [World.cell?_alloc_mark]; exact hc i hi
  rd := fun i hi => ((ho i hi).alloc _).rd
  own := fun i _ hi => (ho i hi).alloc _
  dis := dis
  far := fun i k hi hk e => by have := ((ho i hi).lt k hk).2; omega
theorem Many.below {B n : Nat} {w w' : World} {V : Nat → Value} (h : Many w w' n V) (hB : B ≤ w.heap.size) (hv : ∀ i k, i < n → (V i).ownBlock = some k → B ≤ k) : Below B w w' :=
  ⟨h.os, h.tape, h.output, h.size, fun k hk => h.block k (by omega) (fun i hi e => by have := hv i k hi e; omega)⟩
/-- Of two: the first, or the other. -/
def pick2 {α : Type} (x y : α) (i : Nat) : α := if i = 0 then x else y
set_option maxRecDepth 100000 in
set_option maxHeartbeats 16000000 in
theorem eby_ok {bb ob c : Nat} {X : List Int} (hX : Byts X) (hl : X.length = 64) (hk : chkN (rN X) (sN X) = 0) (lc : 64 ≤ c) (w : World) (hm : Mds w) (hz : Bz w bb ob X) :
    Calls Tryd.prog 3 #[.slice (some ⟨bb, ob, none⟩) 64 c] w fun e w' => e = .returned (.bool true) ∧ Below w.heap.size w w' := by
  have UO : Hid (∀ W B' v1, Below w.heap.size w W → OwnB B' W v1 X → Calls Tryd.prog 4 #[v1] W fun e w' => e = .returned (.tuple #[.agg #[.int .u64 (l0 (rN X)), .int .u64 (l1 (rN X)), .int .u64 (l2 (rN X)), .int .u64 (l3 (rN X)), .int .u64 (l0 (sN X)), .int .u64 (l1 (sN X)), .int .u64 (l2 (sN X)), .int .u64 (l3 (sN X)), .bool (oB X)], .int .i64 0]) ∧ Below W.heap.size W w') := fun W B' v1 B ho => by
    have h := unpack_own hX hl W (hm.keep B) ho
    rw [sgV, if_pos hk, hk] at h
    exact h
  have PK : Hid (∀ W, Below w.heap.size w W → Calls Tryd.prog 6 #[.agg #[.int .u64 (l0 (rN X)), .int .u64 (l1 (rN X)), .int .u64 (l2 (rN X)), .int .u64 (l3 (rN X)), .int .u64 (l0 (sN X)), .int .u64 (l1 (sN X)), .int .u64 (l2 (sN X)), .int .u64 (l3 (sN X)), .bool (oB X)]] W fun e w' => ∃ v, e = .returned (.tuple #[v, .int .i64 0]) ∧ OwnB W.heap.size w' v X ∧ Below W.heap.size W w') := fun W B => pack_own hX hl hk W (hm.keep B)
  have CK : Hid (∀ W, Below w.heap.size w W → Calls Tryd.prog 8 #[.agg #[.int .u64 (l0 (rN X)), .int .u64 (l1 (rN X)), .int .u64 (l2 (rN X)), .int .u64 (l3 (rN X)), .int .u64 (l0 (sN X)), .int .u64 (l1 (sN X)), .int .u64 (l2 (sN X)), .int .u64 (l3 (sN X)), .bool (oB X)]] W fun e w' => e = .returned (.int .i64 0) ∧ Below W.heap.size W w') := fun W B => by
    have h := (echeck_any (o := oB X) (sig_num hX hl).1 (sig_num hX hl).2.1).out W (hm.keep B)
    rw [hk] at h
    exact h
  have SM : Hid (∀ W B' a1 c1, Below w.heap.size w W → OwnB B' W (.slice a1 64 c1) X → Calls Tryd.prog 7 #[.slice a1 64 c1, .slice (some ⟨bb, ob, none⟩) 64 c] W fun e w' => e = .returned (.bool true) ∧ Below W.heap.size W w') := fun W B' a1 c1 B ho => by
    obtain ⟨a, g, c2, e1, _, hz1, hb1, _⟩ := ho.lies
    rw [hl] at e1
    injection e1 with e2 e3 e4
    subst e2
    have h := esame_any (c := c1) (c' := c) (by omega) hz1 (.inr rfl) W hb1 (hz.keep B)
    rw [hl, decide_eq_true rfl] at h
    exact h
  clear hk
  generalize rN X = r at *
  generalize sN X = s at *
  generalize oB X = od at *
  have HC : Hid (∀ W, Below w.heap.size w W → Calls Tryd.prog 5 #[.slice (some ⟨bb, ob, none⟩) 64 c] W fun e w' => ∃ v, e = .returned v ∧ OwnB W.heap.size w' v X ∧ Below W.heap.size W w') := fun W B => by
    have h := ecopied_any (cd := c) (by omega) (.inr rfl) W (hz.keep B)
    rw [hl] at h
    exact h
  have LX : Hid (X.length = 64) := hl
  obtain ⟨i0, hi, hz0, hz1, hz2⟩ := info_parts info_byte
  have E0 : ∀ w, (Op.equalIn 10000 27 (.agg #[.int .u64 0, .int .u64 0, .int .u64 0, .int .u64 0, .int .u64 0, .int .u64 0, .int .u64 0, .int .u64 0, .bool false]) (.agg #[.int .u64 0, .int .u64 0, .int .u64 0, .int .u64 0, .int .u64 0, .int .u64 0, .int .u64 0, .int .u64 0, .bool false])).run Tryd.prog w = .ok true w := eq_zsig
  have lc2 : (63 : Int) ≤ (c : Int) := by omega
  have lc3 : (64 : Int) ≤ (c : Int) := by omega
  clear hX hl hm hz lc
  go_enter Tryd.func3, Tryd.ntmps3
  have BB : Below w.heap.size w w := Below.refl _ _
  have hc := HC.out w BB
  go_wp2_with fail
  with_reducible refine hc.mono ?_
  rintro e w1 ⟨v1, rfl, o1, BN⟩
  clear hc
  replace BB := BB.trans (BN.mono BB.size)
  clear BN
  have hc := UO.out w1 _ v1 BB o1
  go_wp2_with fail
  with_reducible refine hc.mono ?_
  rintro e w2 ⟨rfl, BN⟩
  clear hc o1
  replace BB := BB.trans (BN.mono BB.size)
  clear BN
  go_wp2_with fail
  refine calls_world (fun W => Below w.heap.size w W ∧ Pnt W w2.heap.size r s od ∧ w.heap.size ≤ w2.heap.size) ⟨BB.alloc BB.size _, Pnt.new rfl, BB.size⟩ ?_
  clear BB
  rintro W3 ⟨BB, hS, gs⟩
  generalize w2.heap.size = bs at *
  clear w2
  with_reducible refine (eunp_long (by decide) W3).mono ?_
  rintro e w3 ⟨rfl, BN⟩
  replace BB := BB.trans (BN.mono BB.size)
  replace hS := hS.keep BN
  clear BN W3
  go_wp2_with fail
  refine calls_world (fun W => Below w.heap.size w W ∧ Pnt W bs r s od ∧ Bk9 W w3.heap.size) ⟨BB.alloc BB.size _, hS.alloc _, Bk9.new rfl⟩ ?_
  clear BB hS
  rintro W4 ⟨BB, hS, h5⟩
  generalize w3.heap.size = b5 at *
  clear w3
  with_reducible refine (HC.out W4 BB).mono ?_
  rintro e w4 ⟨v4, rfl, o4, BN⟩
  have HF : Hid (OwnB W4.heap.size w4 v4 X ∧ Below W4.heap.size W4 w4) := ⟨o4, BN⟩
  have HS : Hid (Below w.heap.size w W4 ∧ Pnt W4 bs r s od ∧ Bk9 W4 b5) := ⟨BB, hS, h5⟩
  clear o4 BN BB hS h5
  go_wp2_with (at_builtin; (refine wpList_append_own_at _ rfl _ _ 22 rfl W4.heap.size 5 i0 (.int .u8 0) 1 1 Tryd.underlying22 hi hz0 hz1 hz2 rfl (by decide) v4 _ _ rfl (HF.out.1.alloc _).row ⟨w4.heap.size, 0, none⟩ 1 1 [.int .u8 0] rfl rfl (cell_one_new _ _ _) (fun u hu => by simp at hu; subst hu; rfl) (by unfold maxLen; have := LX.out; omega) (by have := LX.out; omega) (by have := HF.out.2.size; simp; omega) ?_); intro v' w5 hown' hgrow5 hnil5 hblk)
  have B5 : Below W4.heap.size W4 w5 := (HF.out.2.alloc HF.out.2.size _).grown hgrow5 (by have := HF.out.2.size; simp; omega) (fun k hk => (HF.out.1.row.lt k hk).1)
  obtain ⟨g5, c5, rfl, hx5⟩ := World.ownsRow.form hown' (by omega)
  clear hx5 hown' hgrow5 hnil5 hblk HF
  obtain ⟨BB, hS, h5⟩ := HS.out
  replace BB := BB.trans (B5.mono BB.size)
  replace hS := hS.keep B5
  replace h5 := h5.keep B5
  clear HS B5 W4
  with_reducible refine (eunp_long (by have := LX.out; omega) w5).mono ?_
  rintro e w6 ⟨rfl, BN⟩
  replace BB := BB.trans (BN.mono BB.size)
  replace hS := hS.keep BN
  replace h5 := h5.keep BN
  clear BN w5
  have g5' := fun o => (h5.alloc o).cells
  have gS := fun o => (hS.alloc o).cells
  go_wp2_with fail
  refine calls_world (fun W => Below w.heap.size w W ∧ Pnt W bs r s od) ⟨BB.alloc BB.size _, hS.alloc _⟩ ?_
  clear BB hS h5 g5' gS
  rintro W7 ⟨BB, hS⟩
  generalize w6.heap.size = b7 at *
  clear w6
  have lb : bs < W7.heap.size := hS.lt
  have sz7 : Hid (w.heap.size ≤ W7.heap.size) := BB.size
  with_reducible refine (PK.out W7 BB).mono ?_
  rintro e w8 ⟨v9, rfl, o9, BN⟩
  replace BB := BB.trans (BN.mono BB.size)
  replace hS := hS.keep BN
  have s8 : Hid (W7.heap.size ≤ w8.heap.size) := BN.size
  clear BN
  have gS := hS.cells
  go_wp2_with fail
  with_reducible refine (PK.out w8 BB).mono ?_
  rintro e w9 ⟨v11, rfl, o11, BN⟩
  have I9 : Hid (∀ k, v9.ownBlock = some k → W7.heap.size ≤ k ∧ k < w8.heap.size) := fun k hk => o9.lt k hk
  have I11 : Hid (∀ k, v11.ownBlock = some k → w8.heap.size ≤ k ∧ k < w9.heap.size) := fun k hk => o11.lt k hk
  replace BB := BB.trans (BN.mono BB.size)
  replace hS := hS.keep BN
  replace o9 := o9.keep BN
  clear BN gS
  obtain ⟨a9, g9, c9, e9, _⟩ := o9.lies
  obtain ⟨a11, g11, c11, e11, _⟩ := o11.lies
  rw [LX.out] at e9 e11
  subst e9 e11
  go_wp2_with fail
  with_reducible refine (SM.out w9 _ a9 c9 BB o9).mono ?_
  rintro e w10 ⟨rfl, BN⟩
  replace BB := BB.trans (BN.mono BB.size)
  replace hS := hS.keep BN
  replace o9 := o9.keep BN
  replace o11 := o11.keep BN
  clear BN
  go_wp2_with fail
  with_reducible refine (SM.out w10 _ a11 c11 BB o11).mono ?_
  rintro e w11 ⟨rfl, BN⟩
  replace BB := BB.trans (BN.mono BB.size)
  replace hS := hS.keep BN
  replace o9 := o9.keep BN
  replace o11 := o11.keep BN
  clear BN
  have gS := hS.cells
  go_wp2_with fail
  with_reducible refine (CK.out w11 BB).mono ?_
  rintro e w12 ⟨rfl, BN⟩
  replace BB := BB.trans (BN.mono BB.size)
  replace hS := hS.keep BN
  replace o9 := o9.keep BN
  replace o11 := o11.keep BN
  clear BN gS
  go_wp2_with fail
  have hf := famN (B := w.heap.size) (n := 2) (W := w12) (V := pick2 (.slice a9 64 c9) (.slice a11 64 c11)) (F := fun _ => X) #[.slice a9 64 c9, .slice a11 64 c11] 22
    (fun i hi => by have : i = 0 ∨ i = 1 := by omega
                    rcases this with rfl | rfl <;> rfl)
    (fun i hi => by have : i = 0 ∨ i = 1 := by omega
                    rcases this with rfl | rfl
                    · exact o9.base (by have := sz7.out; omega)
                    · exact o11.base (by have := sz7.out; have := s8.out; omega))
    (fun i j k hi hj ne h1 h2 => by
      have e : (i = 0 ∧ j = 1) ∨ (i = 1 ∧ j = 0) := by omega
      rcases e with ⟨rfl, rfl⟩ | ⟨rfl, rfl⟩
      · have q1 := I9.out k h1; have q2 := I11.out k h2; omega
      · have q1 := I11.out k h1; have q2 := I9.out k h2; omega)
  have hv : Hid (∀ i k, i < 2 → (pick2 (Value.slice a9 64 c9) (.slice a11 64 c11) i).ownBlock = some k → W7.heap.size ≤ k ∧ k < w12.heap.size) := fun i k hi hk => by
    have : i = 0 ∨ i = 1 := by omega
    rcases this with rfl | rfl
    · have q := I9.out k hk; exact ⟨by omega, (o9.lt k hk).2⟩
    · have q := I11.out k hk; have := s8.out; exact ⟨by omega, (o11.lt k hk).2⟩
  have BB2 : Below w.heap.size w (w12.alloc (.cells #[.slice a9 64 c9, .slice a11 64 c11] 22)) := BB.alloc BB.size _
  refine calls_world (fun W => Fam w.heap.size W w12.heap.size 2 (pick2 (.slice a9 64 c9) (.slice a11 64 c11)) (fun _ => X) 0 ∧ Below w.heap.size w W ∧ w12.heap.size < W.heap.size ∧ Pnt W bs r s od) ⟨hf, BB2, by simp, hS.alloc _⟩ ?_
  clear hf BB2 o9 o11 BB hS
  rintro W13 ⟨hf, BB, hs, hS⟩
  with_reducible refine (apm_any (cl := 2) (by decide) (fun i _ => by have := LX.out; omega) W13 BB.size hs hf (fun i k hi hk => by have := hv.out i k hi hk; omega)).mono ?_
  rintro e W14 ⟨rfl, hmn⟩
  have B14 : Below w.heap.size w W14 := BB.trans (hmn.below BB.size (fun i k hi hk => by have := hv.out i k hi hk; have := sz7.out; omega))
  have hS' : Pnt W14 bs r s od := fun i hi => (World.cell?_of_block (w := W13) (a := ⟨bs, i, none⟩) (hmn.block bs hS.lt (fun i hi e => by have := hv.out i _ hi e; omega))).trans (hS i hi)
  clear hf hmn BB hs hS
  have gS := hS'.cells
  go_wp2_with fail
  with_reducible refine (PK.out W14 B14).mono ?_
  rintro e w15 ⟨v13, rfl, o13, BN⟩
  replace B14 := B14.trans (BN.mono B14.size)
  clear BN gS hS'
  obtain ⟨a13, g13, c13, e13, _⟩ := o13.lies
  rw [LX.out] at e13
  subst e13
  go_wp2_with fail
  with_reducible refine (SM.out w15 _ a13 c13 B14 o13).mono ?_
  rintro e w16 ⟨rfl, BN⟩
  replace B14 := B14.trans (BN.mono B14.size)
  clear BN o13
  go_wp2
  simp [bodyPost, results, Tryd.results3, go_sem]
  exact B14
end Go.Proofs.YtmpggpkokniemaaDoor

namespace Go.Proofs.YtmpggpkokniemaaDoor
open Go.RowKit Go.Sort

theorem ebytes_any {a : Option Addr} {bb ob c : Nat} {X : List Int} (hm2 : X.length ≤ 140737488351232) (hX : Byts X) (lc : X.length ≤ c) (hZ : Az a bb ob X) (w : World) (hm : Mds w) (hz : Bz w bb ob X) :
    Calls Tryd.prog 3 #[.slice a X.length c] w fun e w' => e = .returned (.bool true) ∧ Below w.heap.size w w' := by
  by_cases hn : X.length = 64
  · have ea : a = some ⟨bb, ob, none⟩ := hZ.cons (by omega)
    subst ea
    rw [hn]
    by_cases hk : chkN (rN X) (sN X) = 0
    · exact eby_ok hX hn hk (by omega) w hm hz
    · exact eby_bad hX hn hk (by omega) w hm hz
  · exact eby_len hm2 hn hZ w hz
end Go.Proofs.YtmpggpkokniemaaDoor

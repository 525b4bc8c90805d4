import Derived.Test.YtcgibaggponfnaaDoorKStillAll
namespace Go.Proofs.YtcgibaggponfnaaDoor
open Go.RowKit Go.Sort

theorem own_part {B : Nat} {W : World} {v : Value} {X : List (BitVec 8)} (h : Own B W v X) : ∃ p : Part, v = p.val ∧ p.X = X ∧ p.ok W ∧ (p.a = none → p.c = 0) ∧ (p.X = [] ∨ (B ≤ p.b ∧ p.b < W.heap.size)) := by
  rcases h.2 with ⟨e, hx⟩ | ⟨g, cap, cur, e, hg, hc, hle, _⟩
  · have hx' : X = [] := List.length_eq_zero_iff.1 hx
    subst hx'
    exact ⟨.none, e, rfl, ⟨.inl rfl, Nat.zero_le _, fun i hi => absurd hi (Nat.not_lt_zero _)⟩, fun _ => rfl, .inl rfl⟩
  · subst e
    refine ⟨⟨some ⟨g, 0, none⟩, g, 0, cap, X⟩, rfl, rfl, ⟨.inr rfl, hle, fun i hi => ?_⟩, (fun h => nomatch h), .inr ⟨hg, (Array.getElem?_eq_some_iff.1 hc).1⟩⟩
    have hi' : i < X.length := hi
    show W.cell? ⟨g, 0 + i, none⟩ = some (.int .u8 (Y (X.getD i 0)))
    rw [Nat.zero_add, h.row.cellAt i (by omega)]
    simp [byts, List.getD, hi']

/-- Parts under way: pv is the slice of the parts PS. -/
structure Stock (w W : World) (pv : Value) (PS : List Part) : Prop where
  below : Below w.heap.size w W
  own : W.ownsRow w.heap.size 27 1 pv PS.length (PS.map Part.val)
  parts : ∀ p ∈ PS, p.ok W ∧ (p.a = none → p.c = 0) ∧ (p.X = [] ∨ (w.heap.size ≤ p.b ∧ p.b < W.heap.size ∧ pv.ownBlock ≠ some p.b))
theorem Stock.same {w W W' : World} {pv : Value} {PS : List Part} (h : Stock w W pv PS) (hb : Below W.heap.size W W') : Stock w W' pv PS where
  below := h.below.trans (hb.mono h.below.size)
  own := own_same h.own fun k hk => hb.block k (h.own.lt k hk).2
  parts := fun p hp => by
    obtain ⟨⟨q1, q2, q3⟩, q4, q5⟩ := h.parts p hp
    refine ⟨⟨q1, q2, q3.keep hb⟩, q4, ?_⟩
    rcases q5 with q5 | ⟨a1, a2, a3⟩
    · exact .inl q5
    · exact .inr ⟨a1, Nat.lt_of_lt_of_le a2 hb.size, a3⟩
theorem Stock.push {w W W' : World} {pv pv' : Value} {PS : List Part} (h : Stock w W pv PS) {p : Part} (hp : p.ok W ∧ (p.a = none → p.c = 0) ∧ (p.X = [] ∨ (w.heap.size ≤ p.b ∧ p.b < W.heap.size ∧ pv.ownBlock ≠ some p.b)))
    (hown : W'.ownsRow w.heap.size 27 1 pv' (PS.length + 1) (PS.map Part.val ++ [p.val])) (hg : W.grownBy W' pv.ownBlock) (hblk : pv'.ownBlock = pv.ownBlock ∨ pv'.ownBlock = some W.heap.size) : Stock w W' pv' (PS ++ [p]) where
  below := h.below.grown hg h.below.size (fun k hk => (h.own.lt k hk).1)
  own := by rw [List.length_append, List.map_append]; exact hown
  parts := fun q hq => by
    have key : q.ok W ∧ (q.a = none → q.c = 0) ∧ (q.X = [] ∨ (w.heap.size ≤ q.b ∧ q.b < W.heap.size ∧ pv.ownBlock ≠ some q.b)) := by
      rcases List.mem_append.1 hq with hq | hq
      · exact h.parts q hq
      · obtain rfl := List.mem_singleton.1 hq
        exact hp
    obtain ⟨⟨q1, q2, q3⟩, q4, q5⟩ := key
    rcases q5 with q5 | ⟨a1, a2, a3⟩
    · exact ⟨⟨q1, q2, fun i hi => by rw [q5] at hi; exact absurd hi (Nat.not_lt_zero _)⟩, q4, .inl q5⟩
    · refine ⟨⟨q1, q2, q3.same (hg.block q.b a2 (fun e => a3 e.symm))⟩, q4, .inr ⟨a1, Nat.lt_of_lt_of_le a2 hg.size, ?_⟩⟩
      rcases hblk with e | e
      · rw [e]; exact a3
      · rw [e]; intro e2; have := Option.some.inj e2; omega
theorem Stock.prts {w W : World} {pv : Value} {PS : List Part} (h : Stock w W pv PS) : ∃ a g c, pv = .slice a PS.length c ∧ (PS = [] ∨ a = some ⟨g, 0, none⟩) ∧ PS.length ≤ c ∧ (a = none → c = 0) ∧ Prts W g 0 PS := by
  rcases h.own.2 with ⟨e, hx⟩ | ⟨g, cap, cur, e, hg, hc, hle, _⟩
  · have hx' : PS = [] := List.length_eq_zero_iff.1 hx
    subst hx'
    exact ⟨none, 0, 0, e, .inl rfl, Nat.le_refl _, fun _ => rfl, fun i hi => absurd hi (Nat.not_lt_zero _)⟩
  · refine ⟨_, g, cap, e, .inr rfl, hle, (fun h => nomatch h), fun i hi => ?_⟩
    subst e
    have hm : PS.getD i .none ∈ PS := by rw [List.getD, List.getElem?_eq_getElem hi]; exact List.getElem_mem hi
    refine ⟨?_, (h.parts _ hm).1⟩
    rw [Nat.zero_add, h.own.cellAt i (by omega)]
    simp [List.getD, hi]

set_option maxHeartbeats 4000000 in
theorem turnedAll_any {a : Option Addr} {bp op cp : Nat} {PS : List Part} (hs : (catX PS).length < 1073741824) (hn : PS.length ≤ 1073741824) (ha : PS = [] ∨ a = some ⟨bp, op, none⟩) (w : World) (hP : Prts w bp op PS) :
    Calls Tryd.prog 24 #[.slice a PS.length cp] w fun e w' => ∃ v QS, e = .returned v ∧ Stock w w' v QS ∧ QS.map (·.X) = PS.map (·.X.reverse) := by
  obtain ⟨i1, hi, hz0, hz1, hz2⟩ := info_parts info_bytes
  have HZ : Hid (Tryd.prog.info? 27 = some i1 ∧ i1.zero = some (.slice none 0 0) ∧ i1.size = 1 ∧ i1.bytes = 24) := ⟨hi, hz0, hz1, hz2⟩
  have HA : Hid (Prts w bp op PS ∧ (PS = [] ∨ a = some ⟨bp, op, none⟩) ∧ (catX PS).length < 1073741824 ∧ PS.length ≤ 1073741824) := ⟨hP, ha, hs, hn⟩
  have nb : (PS.length : Int) ≤ 1073741824 := by omega
  clear hP ha hs hi hz0 hz1 hz2 hn
  go_enter Tryd.func24, Tryd.ntmps24
  go_wp2_with fail
  go_loopg [3, 4] PS.length (fun k lv iv wr => ∃ QS : List Part, k = PS.length - QS.length ∧ QS.length ≤ PS.length ∧ iv = .int .i64 QS.length ∧ Stock w wr lv QS ∧ QS.map (·.X) = (PS.take QS.length).map (·.X.reverse))
  case atStart => exact ⟨[], rfl, Nat.zero_le _, rfl, ⟨Below.refl _ _, ⟨rfl, .inl ⟨rfl, rfl⟩⟩, fun p hp => nomatch hp⟩, rfl⟩
  case round =>
    obtain ⟨QS, hk, hi9, rfl, hst, hq⟩ := hrel
    have HK : Hid (gk = PS.length - QS.length ∧ QS.length ≤ PS.length) := ⟨hk, hi9⟩
    have HF : Hid (Stock w wr u3 QS ∧ QS.map (·.X) = (PS.take QS.length).map (·.X.reverse)) := ⟨hst, hq⟩
    clear hk hst hq hi9
    by_cases h8 : QS.length = PS.length
    · rw [h8]
      have H8 : Hid (QS.length = PS.length) := h8
      go_wp2
      go_ret
      exact ⟨_, QS, rfl, HF.out.1, by have h := HF.out.2; rw [H8.out, List.take_length] at h; exact h⟩
    · have hlt : QS.length < PS.length := by have := HK.out; omega
      have ea : a = some ⟨bp, op, none⟩ := by
        rcases HA.out.2.1 with h | h
        · rw [h] at hlt; simp at hlt
        · exact h
      subst ea
      obtain ⟨p, kp⟩ : ∃ p, p = PS.getD QS.length .none := ⟨_, rfl⟩
      have EX : Hid ((PS.take (QS.length + 1)).map (·.X.reverse) = (PS.take QS.length).map (·.X.reverse) ++ [p.X.reverse]) := by
        rw [List.take_add_one, List.map_append, kp, List.getD, List.getElem?_eq_getElem hlt]; exact rfl
      have g0 : wr.cell? ⟨bp, op + QS.length, none⟩ = some (.slice p.a p.X.length p.c) := by
        have h := (HA.out.1 QS.length hlt).1
        rw [HF.out.1.below.cell (p := ⟨bp, op + QS.length, none⟩) (World.block_lt_of_cell? w _ h), h, ← kp]
        rfl
      have OK : Hid (At p.a p.b p.o p.X ∧ Byo wr p.b p.o p.X ∧ p.X.length < 1073741824) := by
        have h := (HA.out.1 QS.length hlt).2
        rw [← kp] at h
        refine ⟨h.1, h.2.2.keep HF.out.1.below, ?_⟩
        have h1 := catX_le (PS := PS) (QS.length + 1)
        rw [catX_next hlt, List.length_append, ← kp] at h1
        have := HA.out.2.2.1
        omega
      clear kp
      go_wp2_with fail
      refine (backward_any OK.out.2.2 OK.out.1 _ OK.out.2.1).mono ?_
      rintro e w7 ⟨v, rfl, ho, hb⟩
      obtain ⟨q, ev, eX, hq1, hq2, hq3⟩ := own_part ho
      have I7 : Hid (Stock w w7 u3 QS) := HF.out.1.same hb
      have G7 : Hid (q.X = p.X.reverse ∧ q.ok w7 ∧ (q.a = none → q.c = 0) ∧ (q.X = [] ∨ (w.heap.size ≤ q.b ∧ q.b < w7.heap.size ∧ u3.ownBlock ≠ some q.b))) := by
        refine ⟨eX, hq1, hq2, ?_⟩
        rcases hq3 with h | ⟨h1, h2⟩
        · exact .inl h
        · exact .inr ⟨Nat.le_trans HF.out.1.below.size h1, h2, fun e => by have := (HF.out.1.own.lt _ e).2; omega⟩
      clear ho hb eX hq1 hq2 hq3
      rw [Part.val] at ev
      subst ev
      have PL : Hid (QS.length < 1073741824) := show QS.length < 1073741824 by have := HA.out.2.2.2; omega
      go_wp2_with ((at_builtin; go_loud (refine wpList_append_own_at _ rfl _ _ 33 rfl w.heap.size 27 i1 (.slice none 0 0) 1 24 Tryd.underlying33 HZ.out.1 HZ.out.2.1 HZ.out.2.2.1 HZ.out.2.2.2 rfl (by decide) u3 _ _ rfl (I7.out.own.alloc _) ⟨w7.heap.size, 0, none⟩ 1 1 [.slice q.a q.X.length q.c] rfl rfl (cell_one_new _ _ _) (fun u hu => by simp at hu; subst hu; rfl) (by unfold maxLen; have := PL.out; omega) (by have := PL.out; omega) (by have := I7.out.below.size; simp; omega) ?_); intro v' w8 hown hgrow hnil hblk))
      have I8 : Hid (Stock w w8 v' (QS ++ [q])) := by
        have hb := (Below.refl w7.heap.size w7).alloc (Nat.le_refl _) (.cells #[.slice q.a q.X.length q.c] 27)
        refine (I7.out.same hb).push (p := q) ?_ hown hgrow hblk
        obtain ⟨_, ⟨q1, q2, q3⟩, q4, q5⟩ := G7.out
        refine ⟨⟨q1, q2, q3.keep hb⟩, q4, ?_⟩
        rcases q5 with h | ⟨h1, h2, h3⟩
        · exact .inl h
        · exact .inr ⟨h1, Nat.lt_of_lt_of_le h2 hb.size, h3⟩
      clear hown hgrow hnil hblk I7
      go_roundg (PS.length - (QS.length + 1))
      case measure => have := HK.out; omega
      case rel =>
        refine ⟨QS ++ [q], by simp, by simp; omega, by simp, I8.out, ?_⟩
        rw [List.length_append, List.length_singleton, EX.out, List.map_append, HF.out.2, ← G7.out.1]
        rfl

end Go.Proofs.YtcgibaggponfnaaDoor

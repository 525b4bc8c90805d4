import Derived.Test.YtjbmiobbgdcceaaDoorSRLent
import Derived.Test.YtjbmiobbgdcceaaDoorSRDig
namespace Go.Proofs.YtjbmiobbgdcceaaDoor
open Go.RowKit Go.Sort

theorem info_bytes : (Tryd.prog.info? 22).map (fun i => (i.zero, i.size, i.bytes)) = some (some (.slice none 0 0), 1, 24) := by kernel_rfl
theorem Stock.more {w W W' : World} {pv pv' : Value} {PS : List Part} (h : Stock w W pv PS) {vs : List Value} {n : Nat} (hn : 0 < n) (hown : W'.ownsRow w.heap.size 22 1 pv' (PS.length + n) (PS.map Part.val ++ vs)) (hg : W.grownBy W' pv.ownBlock) :
    Below w.heap.size w W' ∧ ∃ g c, pv' = .slice (some ⟨g, 0, none⟩) (PS.length + n) c ∧ PS.length + n ≤ c ∧ Prts W' g 0 PS := by
  refine ⟨h.below.grown hg h.below.size (fun k hk => (h.own.lt k hk).1), ?_⟩
  rcases hown.2 with ⟨_, hx⟩ | ⟨g, cap, cur, e, _, _, hle, _⟩
  · omega
  · refine ⟨g, cap, e, hle, fun i hi => ?_⟩
    subst e
    have hm : PS.getD i .none ∈ PS := by rw [List.getD, List.getElem?_eq_getElem hi]; exact List.getElem_mem hi
    refine ⟨?_, ?_⟩
    · rw [Nat.zero_add, hown.cellAt i (by omega), List.getElem?_append_left (by simpa using hi)]
      simp [List.getD, hi]
    · obtain ⟨⟨q1, q2, q3⟩, q4, q5⟩ := h.parts _ hm
      rcases q5 with q5 | ⟨a1, a2, a3⟩
      · exact ⟨q1, q2, fun i hi => by rw [q5] at hi; exact absurd hi (Nat.not_lt_zero _)⟩
      · exact ⟨q1, q2, q3.same (hg.block _ a2 (fun e => a3 e.symm))⟩

theorem cell_two_new (w : World) (x y : Value) (t : TypeId) (b : Nat) (e : b = w.heap.size) : ∀ j u, [x, y][j]? = some u → (w.alloc (.cells #[x, y] t)).cell? ((⟨b, 0, none⟩ : Addr).add j) = some u := by
  subst e
  intro j u hu
  have hj : j < 2 := (List.getElem?_eq_some_iff.1 hu).1
  rw [Addr.add_mid, Nat.zero_add, World.cell?_alloc_mark, ← hu]
  obtain rfl | rfl : j = 0 ∨ j = 1 := by omega
  · rfl
  · rfl

theorem Gb.same {W W' : World} {g : Nat} {T : List (BitVec 8)} (h : Gb W g T) (e : W'.heap[g]? = W.heap[g]?) : Gb W' g T := ⟨h.1.same e, fun i hi => by rw [World.frozen?_of_block (w := W) (a := ⟨g, i, none⟩) e]; exact h.2 i hi⟩
/-- A part that was lent: where it lies, its room, that it lies apart from the list. -/
def Lnt (B : Nat) (W : World) (own : Option Nat) (q : Part) : Prop := Gb W q.b (q.X ++ List.replicate 70 165) ∧ q.X.length + 70 ≤ q.c ∧ q.a = some ⟨q.b, 0, none⟩ ∧ q.o = 0 ∧ B ≤ q.b ∧ q.b < W.heap.size ∧ own ≠ some q.b
def Rm (w W : World) (pv : Value) (QS : List Part) : Prop := (∀ q ∈ QS, Lnt w.heap.size W pv.ownBlock q) ∧ (QS.map (·.b)).Nodup
theorem Rm.nil (w W : World) (pv : Value) : Rm w W pv [] := ⟨(fun _ h => by cases h), List.nodup_nil⟩
theorem Rm.same {w W W' : World} {pv : Value} {QS : List Part} (h : Rm w W pv QS) (hb : Below W.heap.size W W') : Rm w W' pv QS :=
  ⟨(fun q hq => by obtain ⟨a1, a2, a3, a4, a5, a6, a7⟩ := h.1 q hq; exact ⟨a1.same (hb.block _ a6), a2, a3, a4, a5, Nat.lt_of_lt_of_le a6 hb.size, a7⟩), h.2⟩
theorem Rm.grown {w W W' : World} {pv pv' : Value} {QS : List Part} (h : Rm w W pv QS) (hg : W.grownBy W' pv.ownBlock) (hblk : pv'.ownBlock = pv.ownBlock ∨ pv'.ownBlock = some W.heap.size) : Rm w W' pv' QS :=
  by
  refine ⟨fun q hq => ?_, h.2⟩
  obtain ⟨a1, a2, a3, a4, a5, a6, a7⟩ := h.1 q hq
  refine ⟨a1.same (hg.block _ a6 (fun e => a7 e.symm)), a2, a3, a4, a5, Nat.lt_of_lt_of_le a6 hg.size, ?_⟩
  rcases hblk with e | e
  · rw [e]; exact a7
  · rw [e]
    intro h'
    have := Option.some.inj h'
    omega
theorem marks_of {W0 w8 : World} {base g c n m : Nat} {u : Value} {vs : List Value} {x y : Value} (hown : w8.ownsRow base 22 1 (.slice (some ⟨g, 0, none⟩) (n + 2) c) (n + 2) (vs ++ [x, y])) (hg : W0.grownBy w8 u.ownBlock) (hM : W0.cell? ⟨m, 0, none⟩ = some (.int .u8 165) ∧ W0.cell? ⟨m + 1, 0, none⟩ = some (.int .u8 90)) (ho : ∀ k, u.ownBlock = some k → k < m) (hl : vs.length = n := by simp) : w8.cell? ⟨g, n, none⟩ = some x ∧ w8.cell? ⟨g, n + 1, none⟩ = some y ∧ w8.cell? ⟨m, 0, none⟩ = some (.int .u8 165) ∧ w8.cell? ⟨m + 1, 0, none⟩ = some (.int .u8 90) := by
  refine ⟨?_, ?_, ?_, ?_⟩
  · rw [hown.cellAt n (by omega), List.getElem?_append_right (by omega), hl, Nat.sub_self]; rfl
  · rw [hown.cellAt (n + 1) (by omega), List.getElem?_append_right (by omega), hl, show n + 1 - n = 1 by omega]; rfl
  · rw [World.grownBy.cell_far hg ⟨m, 0, none⟩ (World.block_lt_of_cell? _ _ hM.1) (fun e => by have := ho m e.symm; omega)]; exact hM.1
  · rw [World.grownBy.cell_far hg ⟨m + 1, 0, none⟩ (World.block_lt_of_cell? _ _ hM.2) (fun e => by have := ho (m + 1) e.symm; omega)]; exact hM.2
theorem Rm.push {w W : World} {pv : Value} {QS : List Part} (h : Rm w W pv QS) {q : Part} (hq : Lnt w.heap.size W pv.ownBlock q) (hn : ∀ p ∈ QS, p.b ≠ q.b) : Rm w W pv (QS ++ [q]) := by
  refine ⟨fun p hp => ?_, ?_⟩
  · rcases List.mem_append.1 hp with hp | hp
    · exact h.1 p hp
    · rw [List.mem_singleton.1 hp]; exact hq
  · rw [List.map_append, List.nodup_append]
    refine ⟨h.2, by simp, fun a ha b hb => ?_⟩
    obtain ⟨p, hp, rfl⟩ := List.mem_map.1 ha
    simp at hb
    rw [hb]; exact hn p hp

set_option maxHeartbeats 4000000 in
theorem parcelR_any {a : Option Addr} {bp op cp : Nat} {PS : List Part} (hs : (catX PS).length < 1073740000) (hn : PS.length ≤ 1073740000) (ha : PS = [] ∨ a = some ⟨bp, op, none⟩) (w : World) (hP : Prts w bp op PS) :
    Calls Tryd.prog 4 #[.slice a PS.length cp] w fun e w' => ∃ g c, e = .returned (.slice (some ⟨g, 0, none⟩) PS.length c) ∧ PS.length + 2 ≤ c ∧ ∃ QS : List Part, QS.length = PS.length ∧ Prts w' g 0 QS ∧ QS.map (·.X) = PS.map (·.X) ∧ Below w.heap.size w w' ∧ Rm w w' (.slice (some ⟨g, 0, none⟩) PS.length c) QS ∧ w.heap.size ≤ g ∧ ∃ m1 m2, w'.cell? ⟨g, PS.length, none⟩ = some (.slice (some ⟨m1, 0, none⟩) 1 1) ∧ w'.cell? ⟨g, PS.length + 1, none⟩ = some (.slice (some ⟨m2, 0, none⟩) 1 1) ∧ w'.cell? ⟨m1, 0, none⟩ = some (.int .u8 165) ∧ w'.cell? ⟨m2, 0, none⟩ = some (.int .u8 90) := by
  obtain ⟨i1, hi, hz0, hz1, hz2⟩ := info_parts info_bytes
  have HZ : Hid (Tryd.prog.info? 22 = some i1 ∧ i1.zero = some (.slice none 0 0) ∧ i1.size = 1 ∧ i1.bytes = 24) := ⟨hi, hz0, hz1, hz2⟩
  have HA : Hid (Prts w bp op PS ∧ (PS = [] ∨ a = some ⟨bp, op, none⟩) ∧ (catX PS).length < 1073740000 ∧ PS.length ≤ 1073740000) := ⟨hP, ha, hs, hn⟩
  have nb : (PS.length : Int) ≤ 1073740000 := by omega
  clear hP ha hs hi hz0 hz1 hz2 hn
  go_enter Tryd.func4, Tryd.ntmps4
  go_wp2_with fail
  go_loopg [3, 4] PS.length (fun k lv iv wr => ∃ QS : List Part, k = PS.length - QS.length ∧ QS.length ≤ PS.length ∧ iv = .int .i64 QS.length ∧ Stock w wr lv QS ∧ QS.map (·.X) = (PS.take QS.length).map (·.X) ∧ Rm w wr lv QS)
  case atStart => exact ⟨[], rfl, Nat.zero_le _, rfl, ⟨Below.refl _ _, ⟨rfl, .inl ⟨rfl, rfl⟩⟩, fun p hp => nomatch hp⟩, rfl, Rm.nil _ _ _⟩
  case round =>
    obtain ⟨QS, hk, hi9, rfl, hst, hq, hrm⟩ := hrel
    have HK : Hid (gk = PS.length - QS.length ∧ QS.length ≤ PS.length) := ⟨hk, hi9⟩
    have HF : Hid (Stock w wr u3 QS ∧ QS.map (·.X) = (PS.take QS.length).map (·.X)) := ⟨hst, hq⟩
    have RM : Hid (Rm w wr u3 QS) := hrm
    clear hk hst hq hi9 hrm
    by_cases h8 : QS.length = PS.length
    · rw [h8]
      have H8 : Hid (QS.length = PS.length ∧ QS.map (·.X) = PS.map (·.X)) := by
        refine ⟨h8, ?_⟩
        have h := HF.out.2
        rw [h8, List.take_length] at h
        exact h
      clear h8
      have PL : Hid (QS.length ≤ 1073740000) := show QS.length ≤ 1073740000 by have := HA.out.2.2.2; have := H8.out; omega
      obtain ⟨W0, kW⟩ : ∃ W0, W0 = ((wr.alloc (.cells #[.int .u8 165] 5)).alloc (.cells #[.int .u8 90] 5)).alloc (.cells #[.slice (some ⟨wr.heap.size, 0, none⟩) 1 1, .slice (some ⟨wr.heap.size + 1, 0, none⟩) 1 1] 22) := ⟨_, rfl⟩
      have S0 : Hid (Stock w W0 u3 QS) := by
        rw [kW]
        exact HF.out.1.same ((((Below.refl _ _).alloc (Nat.le_refl _) _).alloc (by simp) _).alloc (by simp; omega) _)
      have R0 : Hid (Rm w W0 u3 QS) := by
        rw [kW]
        exact RM.out.same ((((Below.refl _ _).alloc (Nat.le_refl _) _).alloc (by simp) _).alloc (by simp; omega) _)
      have M0 : Hid (W0.cell? ⟨wr.heap.size, 0, none⟩ = some (.int .u8 165) ∧ W0.cell? ⟨wr.heap.size + 1, 0, none⟩ = some (.int .u8 90)) := by
        rw [kW]
        constructor
        · refine cell_keep ((Below.refl _ _).alloc (Nat.le_refl _) _) (cell_keep ((Below.refl _ _).alloc (Nat.le_refl _) _) ?_)
          rw [World.cell?_alloc_mark]; rfl
        · refine cell_keep ((Below.refl _ _).alloc (Nat.le_refl _) _) ?_
          rw [show wr.heap.size + 1 = (wr.alloc (.cells #[.int .u8 165] 5)).heap.size by simp, World.cell?_alloc_mark]; rfl
      have OB : Hid (∀ k, u3.ownBlock = some k → k < wr.heap.size) := fun k hk => (HF.out.1.own.lt k hk).2
      have KW : Hid (W0 = ((wr.alloc (.cells #[.int .u8 165] 5)).alloc (.cells #[.int .u8 90] 5)).alloc (.cells #[.slice (some ⟨wr.heap.size, 0, none⟩) 1 1, .slice (some ⟨wr.heap.size + 1, 0, none⟩) 1 1] 22)) := kW
      clear kW
      go_wp2_with (at_builtin; rw [← KW.out]; refine wpList_append_own_at _ rfl _ _ 23 rfl w.heap.size 22 i1 (.slice none 0 0) 1 24 Tryd.underlying23 HZ.out.1 HZ.out.2.1 HZ.out.2.2.1 HZ.out.2.2.2 rfl (by decide) u3 _ _ rfl S0.out.own ⟨wr.heap.size + 1 + 1, 0, none⟩ 2 2 [.slice (some ⟨wr.heap.size, 0, none⟩) 1 1, .slice (some ⟨wr.heap.size + 1, 0, none⟩) 1 1] rfl rfl (by rw [KW.out]; exact cell_two_new _ _ _ _ _ (by simp)) (fun u hu => by simp at hu; rcases hu with rfl | rfl <;> rfl) (by unfold maxLen; have := PL.out; omega) (by have := PL.out; omega) S0.out.below.size ?_; intro v' w8 hown hgrow hnil hblk; obtain ⟨hb8, g, c, ev, hc, hpr⟩ := S0.out.more (by decide) hown hgrow; subst ev; have I8 : Hid (Below w.heap.size w w8 ∧ Prts w8 g 0 QS ∧ QS.length + 2 ≤ c) := ⟨hb8, hpr, hc⟩; have R8 : Hid (Rm w w8 (.slice (some ⟨g, 0, none⟩) (QS.length + 2) c) QS ∧ w.heap.size ≤ g) := ⟨R0.out.grown hgrow hblk, (hown.lt g rfl).1⟩; have M8 : Hid (w8.cell? ⟨g, QS.length, none⟩ = some (.slice (some ⟨wr.heap.size, 0, none⟩) 1 1) ∧ w8.cell? ⟨g, QS.length + 1, none⟩ = some (.slice (some ⟨wr.heap.size + 1, 0, none⟩) 1 1) ∧ w8.cell? ⟨wr.heap.size, 0, none⟩ = some (.int .u8 165) ∧ w8.cell? ⟨wr.heap.size + 1, 0, none⟩ = some (.int .u8 90)) := (marks_of hown hgrow M0.out OB.out); clear hown hgrow hnil hblk hb8 hpr hc; rw [H8.out.1]; (have c1 : PS.length ≤ c := (by have := I8.out; have := H8.out; omega)); (have c2 : (PS.length : Int) ≤ (c : Int) := (by omega)))
      go_ret
      have M9 := M8.out
      rw [H8.out.1] at M9
      refine ⟨g, c, rfl, ?_, QS, H8.out.1, I8.out.2.1, H8.out.2, I8.out.1, R8.out.1, R8.out.2, ?_⟩
      · have := I8.out.2.2; have := H8.out.1; omega
      · exact ⟨_, M9.1, _, M9.2⟩
    · have hlt : QS.length < PS.length := by have := HK.out; omega
      have ea : a = some ⟨bp, op, none⟩ := by
        rcases HA.out.2.1 with h | h
        · rw [h] at hlt; simp at hlt
        · exact h
      subst ea
      obtain ⟨p, kp⟩ : ∃ p, p = PS.getD QS.length .none := ⟨_, rfl⟩
      have EX : Hid ((PS.take (QS.length + 1)).map (·.X) = (PS.take QS.length).map (·.X) ++ [p.X]) := by
        rw [List.take_add_one, List.map_append, kp, List.getD, List.getElem?_eq_getElem hlt]; exact rfl
      have g0 : wr.cell? ⟨bp, op + QS.length, none⟩ = some (.slice p.a p.X.length p.c) := by
        have h := (HA.out.1 QS.length hlt).1
        rw [HF.out.1.below.cell (p := ⟨bp, op + QS.length, none⟩) (World.block_lt_of_cell? w _ h), h, ← kp]
        rfl
      have OK : Hid (At p.a p.b p.o p.X ∧ Byo wr p.b p.o p.X ∧ p.X.length < 1073741000) := by
        have h := (HA.out.1 QS.length hlt).2
        rw [← kp] at h
        refine ⟨h.1, h.2.2.keep HF.out.1.below, ?_⟩
        have h1 := catX_le (PS := PS) (QS.length + 1)
        rw [catX_next hlt, List.length_append, ← kp] at h1
        have := HA.out.2.2.1
        omega
      clear kp
      go_wp2_with fail
      refine (lentR_any OK.out.2.2 OK.out.1 _ OK.out.2.1).mono ?_
      rintro e w7 ⟨g, c, rfl, hc, hg1, hg2, hgb, hb⟩
      have hby := hgb.front
      obtain ⟨q, kq⟩ : ∃ q : Part, q = ⟨some ⟨g, 0, none⟩, g, 0, c, p.X⟩ := ⟨_, rfl⟩
      have I7 : Hid (Stock w w7 u3 QS) := HF.out.1.same hb
      have G7 : Hid (q.X = p.X ∧ q.ok w7 ∧ (q.a = none → q.c = 0) ∧ (q.X = [] ∨ (w.heap.size ≤ q.b ∧ q.b < w7.heap.size ∧ u3.ownBlock ≠ some q.b)) ∧ q.val = .slice (some ⟨g, 0, none⟩) p.X.length c) := by
        rw [kq]
        exact ⟨rfl, ⟨.inr rfl, by show p.X.length ≤ c; omega, hby⟩, (fun h => nomatch h), .inr ⟨Nat.le_trans HF.out.1.below.size hg1, hg2, fun e => absurd (HF.out.1.own.lt _ e).2 (Nat.not_lt.2 hg1)⟩, rfl⟩
      have R7 : Hid (Rm w w7 u3 (QS ++ [q])) := by
        refine (RM.out.same hb).push ?_ (fun p hp => ?_)
        · rw [kq]
          exact ⟨hgb, hc, rfl, rfl, Nat.le_trans HF.out.1.below.size hg1, hg2, fun e => absurd (HF.out.1.own.lt _ e).2 (Nat.not_lt.2 hg1)⟩
        · have h6 := (RM.out.1 p hp).2.2.2.2.2.1
          rw [kq]
          show p.b ≠ g
          omega
      clear hc hg1 hg2 hby hb kq hgb
      have PL : Hid (QS.length < 1073741824) := show QS.length < 1073741824 by have := HA.out.2.2.2; omega
      go_wp2_with ((at_builtin; go_loud (refine wpList_append_own_at _ rfl _ _ 23 rfl w.heap.size 22 i1 (.slice none 0 0) 1 24 Tryd.underlying23 HZ.out.1 HZ.out.2.1 HZ.out.2.2.1 HZ.out.2.2.2 rfl (by decide) u3 _ _ rfl (I7.out.own.alloc _) ⟨w7.heap.size, 0, none⟩ 1 1 [.slice (some ⟨g, 0, none⟩) p.X.length c] rfl rfl (cell_one_new _ _ _) (fun u hu => by simp at hu; subst hu; rfl) (by unfold maxLen; have := PL.out; omega) (by have := PL.out; omega) (by have := I7.out.below.size; simp; omega) ?_); intro v' w8 hown hgrow hnil hblk))
      have I8 : Hid (Stock w w8 v' (QS ++ [q])) := by
        have hb := (Below.refl w7.heap.size w7).alloc (Nat.le_refl _) (.cells #[.slice (some ⟨g, 0, none⟩) p.X.length c] 22)
        refine (I7.out.same hb).push (p := q) ?_ (by rw [G7.out.2.2.2.2]; exact hown) hgrow hblk
        obtain ⟨_, ⟨q1, q2, q3⟩, q4, q5, _⟩ := G7.out
        refine ⟨⟨q1, q2, q3.keep hb⟩, q4, ?_⟩
        rcases q5 with h | ⟨h1, h2, h3⟩
        · exact .inl h
        · exact .inr ⟨h1, Nat.lt_of_lt_of_le h2 hb.size, h3⟩
      have R8 : Hid (Rm w w8 v' (QS ++ [q])) := (R7.out.same ((Below.refl _ _).alloc (Nat.le_refl _) _)).grown hgrow hblk
      clear hown hgrow hnil hblk I7 R7
      go_roundg (PS.length - (QS.length + 1))
      case measure => have := HK.out; omega
      case rel =>
        refine ⟨QS ++ [q], by simp, by simp; omega, by simp, I8.out, ?_, R8.out⟩
        rw [List.length_append, List.length_singleton, EX.out, List.map_append, HF.out.2, ← G7.out.1]
        rfl

end Go.Proofs.YtjbmiobbgdcceaaDoor

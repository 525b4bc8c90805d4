import Derived.Test.YtndefnomefdhoabDoorBmW
import Derived.Laws.OwnMore
import Derived.Deep.AppendLies
/- BloomOf. -/
namespace Go.Proofs.YtndefnomefdhoabDoor
open Go.RowKit Go.Sort

set_option maxRecDepth 100000 in
set_option maxHeartbeats 8000000 in
theorem rof_any {a : Option Addr} {bp op cp : Nat} {PS : List Part} (hs : ∀ p ∈ PS, p.X.length < 140737488351233 ∧ (p.a = none → p.c = 0)) (hn : PS.length < 140737488355328) (ha : PS = [] ∨ a = some ⟨bp, op, none⟩) (w : World) (hP : Prts w bp op PS) (hk : RtB w) :
    Calls Tryd.prog 7 #[.slice a PS.length cp] w fun e w' => e = .returned (.agg (byts (ofF (PS.map (·.X)))).toArray) ∧ Below w.heap.size w w' := by
  have HH : Hid ((∀ p ∈ PS, p.X.length < 140737488351233 ∧ (p.a = none → p.c = 0)) ∧ (PS = [] ∨ a = some ⟨bp, op, none⟩) ∧ RtB w) := ⟨hs, ha, hk⟩
  have PK : Hid (∀ W, Below w.heap.size w W → Prts W bp op PS) := fun W B i hi => by
    obtain ⟨h1, h2, h3, h4⟩ := hP i hi
    exact ⟨cell_keep B h1, h2, h3, h4.keep B⟩
  have n1 : (PS.length : Int) < 140737488355328 := by omega
  clear hs ha hk hP hn
  go_enter Tryd.func7, Tryd.ntmps7
  go_wp2_with (refine wpList_alloc_zero rfl 25 rfl _ zero_bloom ?_)
  refine wp_world (fun W => Below w.heap.size w W ∧ Blm W w.heap.size zF ∧ Blm W (w.heap.size + 1) zF) ⟨((Below.refl _ _).alloc (Nat.le_refl _) _).alloc (by simp) _, (Blm.new zF_len _ rfl).alloc _, Blm.new zF_len _ (by simp)⟩ ?_
  rintro W ⟨B, hR, hF⟩
  have o1 : w.heap.size ≤ w.heap.size + 1 := by omega
  have c1 : w.heap.size ≠ w.heap.size + 1 := by omega
  generalize w.heap.size + 1 = bf at *
  go_loopg [4] PS.length (fun k iv wr => ∃ i : Nat, k = PS.length - i ∧ i ≤ PS.length ∧ iv = .int .i64 i ∧ Below w.heap.size w wr ∧ Blm wr w.heap.size zF ∧ Blm wr bf (ofF ((PS.take i).map (·.X))))
  case atStart => exact ⟨0, rfl, Nat.zero_le _, rfl, B, hR, hF⟩
  case round =>
    clear B hR hF
    obtain ⟨i, hk, hi, rfl, B, hR, hF⟩ := hrel
    have HK : Hid (gk = PS.length - i) := hk
    have SR : Hid (Below w.heap.size w wr ∧ Blm wr w.heap.size zF ∧ Blm wr bf (ofF ((PS.take i).map (·.X)))) := ⟨B, hR, hF⟩
    clear hk B hR hF
    by_cases h8 : i = PS.length
    · subst h8
      have hS := SR.out.2.2
      rw [List.take_length] at hS
      have rb := hS.range
      have ic := size_bloom hS.1
      have ia := size_bloomA hS.1
      have oc := one_byts (ofF (PS.map (·.X)))
      obtain ⟨N, hN⟩ : ∃ N, N = byts (ofF (PS.map (·.X))) := ⟨_, rfl⟩
      have HN : Hid (N = byts (ofF (PS.map (·.X))) ∧ N.length = 256) := ⟨hN, by rw [hN, byts_len]; exact hS.1⟩
      rw [← hN] at rb ic ia oc
      have sz : N.toArray.size = 256 := by simp [HN.out.2]
      have tr : wr.there w.heap.size 0 N.toArray.size := by rw [sz]; exact SR.out.2.1.there
      have B' := SR.out.1
      clear SR hN hS
      go_wp2_with (first | refine wpList_load_mid rfl 25 _ rfl bf 0 rfl N _ rb Tryd.underlying25 rfl ic ?_ | refine wpList_store_mid rfl 25 _ _ rfl w.heap.size 0 _ rfl rfl tr ia oc ?_)
      have ld := run_loadVar_mid (P := Tryd.prog) (wr.setCells w.heap.size 0 N) w.heap.size 0 25 N _ (World.rangeAt_setCells_same _ _ _ _ (by simpa using tr)) Tryd.underlying25 rfl ic
      refine bodyPost_ret (v := .agg N.toArray) ?_ rfl ⟨by rw [HN.out.1], below_setCells (Nat.le_refl _) N 0 wr B'⟩
      simp [results, Tryd.results7, Act.put, asAddr, ld]
    · have hlt : i < PS.length := by omega
      have hlt' : (i : Int) < (PS.length : Int) := by omega
      obtain rfl : a = some ⟨bp, op, none⟩ := by
        rcases HH.out.2.1 with e | e
        · rw [e] at hlt; simp at hlt
        · exact e
      obtain ⟨q1, q2⟩ := PK.out wr SR.out.1 i hlt
      have pm : PS.getD i .none ∈ PS := by rw [List.getD, List.getElem?_eq_getElem hlt]; exact List.getElem_mem hlt
      have RC : Hid (∀ W, Below w.heap.size w W → Calls Tryd.prog 14 #[.agg (byts (ofF ((PS.take i).map (·.X)))).toArray, (PS.getD i .none).val] W fun e w' => e = .returned (.agg (byts (ofF ((PS.take (i + 1)).map (·.X)))).toArray) ∧ Below W.heap.size W w') := fun W B => by
        have h := radd_any (p := PS.getD i .none) (ofF_len ((PS.take i).map (·.X))) (HH.out.1 _ pm).1 (HH.out.1 _ pm).2 W (PK.out W B i hlt).2 (HH.out.2.2.keep B)
        rw [ofF_next hlt] at h
        exact h
      obtain ⟨G, hG⟩ : ∃ G, G = ofF ((PS.take (i + 1)).map (·.X)) := ⟨_, rfl⟩
      have LG : Hid (G = ofF ((PS.take (i + 1)).map (·.X)) ∧ G.length = 256) := ⟨hG, by rw [hG]; exact ofF_len _⟩
      rw [← hG] at RC
      rw [Part.val] at q1 RC
      clear q2 pm hG
      have rb : ∀ w', (∃ p : Regrown, w' = grow (redrawn wr p.d) p.os) → w'.rangeAt bf 0 (byts (ofF ((PS.take i).map (·.X)))) := by rintro w' ⟨p, rfl⟩; exact (SR.out.2.2.grown _ _).range
      have ic := size_bloom (ofF_len ((PS.take i).map (·.X)))
      have q1' : ∀ d os, (grow (redrawn wr d) os).cell? ⟨bp, op + i, none⟩ = some (.slice (PS.getD i .none).a (PS.getD i .none).X.length (PS.getD i .none).c) := fun d os => cell_keep (below_regrown wr d os) q1
      have CC : ∀ d os, Below w.heap.size w (grow (redrawn wr d) os) := fun d os => SR.out.1.trans ((below_regrown wr d os).mono SR.out.1.size)
      generalize byts (ofF ((PS.take i).map (·.X))) = M at *
      generalize PS.getD i .none = p at *
      go_wp2_with fail
      refine below_tail 6 (by kernel_rfl) (by kernel_rfl) ?_
      simp only [List.take_succ_cons, List.take_zero, List.drop_succ_cons, List.drop_zero]
      repeat
        first
          | go_big_quiet_skip
          | (go_big_quiet_want; go_big_quiet_op; go_big_quiet_on)
          | (go_big_quiet_want; refine quiet_load_mid 25 _ rfl bf 0 rfl M _ rb Tryd.underlying25 rfl ic ?_; simp only [Act.put, List.setIfInBounds_toArray, List.set_cons_succ, List.set_cons_zero]; go_big_quiet_on)
          | (go_big_quiet_want
             go_big_quiet_op
             apply Exists.intro
             refine ⟨fun p => ?_, ?_⟩
             · (go_at_call 14; with_reducible exact Calls.regrown_of (RC.out (grow (redrawn wr p.d) p.os) (CC p.d p.os)))
             go_big_quiet_on)
      refine wpQuiet_nil ?_
      rintro w4 ⟨r, rfl⟩
      have hb := below_regrown wr r.d r.os
      generalize grow (redrawn wr r.d) r.os = w4 at *
      clear rb ic q1 q1' CC RC
      have S4 : Hid (Below w.heap.size w w4 ∧ Blm w4 w.heap.size zF ∧ Blm w4 bf (ofF ((PS.take i).map (·.X)))) := ⟨SR.out.1.trans (hb.mono SR.out.1.size), SR.out.2.1.keep hb, SR.out.2.2.keep hb⟩
      have ia := size_bloomA LG.out.2
      have oc := one_byts G
      have sz : (byts G).toArray.size = 256 := by rw [List.size_toArray, byts_len, LG.out.2]
      have tr : w4.there bf 0 (byts G).toArray.size := by rw [sz]; exact S4.out.2.2.there
      have NX : Hid (Below w.heap.size w (w4.setCells bf 0 (byts G)) ∧ Blm (w4.setCells bf 0 (byts G)) w.heap.size zF ∧ Blm (w4.setCells bf 0 (byts G)) bf (ofF ((PS.take (i + 1)).map (·.X)))) := ⟨below_setCells o1 _ 0 w4 S4.out.1, S4.out.2.1.otherCells (Ne.symm c1) _, by rw [← LG.out.1]; exact S4.out.2.2.stored LG.out.2⟩
      clear hb SR S4
      go_wp2_with (refine wpList_store_mid rfl 25 _ _ rfl bf 0 _ rfl rfl tr ia oc ?_)
      go_roundg (PS.length - (i + 1))
      case measure => have := HK.out; omega
      case rel => exact ⟨i + 1, rfl, by omega, by go_num, NX.out⟩

theorem info_bytes : (Tryd.prog.info? 31).map (fun i => (i.zero, i.size, i.bytes)) = some (some (.slice none 0 0), 1, 24) := by kernel_rfl
theorem Stock.more {w W W' : World} {pv pv' : Value} {PS : List Part} (h : Stock w W pv PS) {vs : List Value} {n : Nat} (hn : 0 < n) (hown : W'.ownsRow w.heap.size 31 1 pv' (PS.length + n) (PS.map Part.val ++ vs)) (hg : W.grownBy W' pv.ownBlock) :
    Below w.heap.size w W' ∧ ∃ g c, pv' = .slice (some ⟨g, 0, none⟩) (PS.length + n) c ∧ PS.length + n ≤ c ∧ Prts W' g 0 PS := by
  refine ⟨h.below.grown hg h.below.size (fun k hk => (h.own.lt k hk).1), ?_⟩
  rcases hown.2 with ⟨_, hx⟩ | ⟨g, cap, cur, e, _, _, hle, _⟩
  · omega
  · refine ⟨g, cap, e, hle, fun i hi => ?_⟩
    subst e
    have hm : PS.getD i .none ∈ PS := by rw [List.getD, List.getElem?_eq_getElem hi]; exact List.getElem_mem hi
    refine ⟨?_, ?_⟩
    · rw [Nat.zero_add, hown.cellAt i (by omega), List.getElem?_append_left (by simpa using hi)]
      simp [List.getD, hi]
    · obtain ⟨⟨q1, q2, q3⟩, q4, q5⟩ := h.parts _ hm
      rcases q5 with q5 | ⟨a1, a2, a3⟩
      · exact ⟨q1, q2, fun i hi => by rw [q5] at hi; exact absurd hi (Nat.not_lt_zero _)⟩
      · exact ⟨q1, q2, q3.same (hg.block _ a2 (fun e => a3 e.symm))⟩

theorem Row8.same {W W' : World} {g : Nat} {T : List (BitVec 8)} (h : Row8 W g T) (e : W'.heap[g]? = W.heap[g]?) : Row8 W' g T := ⟨h.1.same e, fun i hi => by rw [World.frozen?_of_block (w := W) (a := ⟨g, i, none⟩) e]; exact h.2 i hi⟩
/-- A part that was lent: where it lies, its room, that it lies apart from the list. -/
def Lnt (B : Nat) (W : World) (own : Option Nat) (q : Part) : Prop := Row8 W q.b (q.X ++ List.replicate 9 165) ∧ q.c = q.X.length + 9 ∧ q.a = some ⟨q.b, 0, none⟩ ∧ q.o = 0 ∧ B ≤ q.b ∧ q.b < W.heap.size ∧ own ≠ some q.b
def Rm (w W : World) (pv : Value) (QS : List Part) : Prop := (∀ q ∈ QS, Lnt w.heap.size W pv.ownBlock q) ∧ (QS.map (·.b)).Nodup
theorem Rm.nil (w W : World) (pv : Value) : Rm w W pv [] := ⟨(fun _ h => by cases h), List.nodup_nil⟩
theorem Rm.same {w W W' : World} {pv : Value} {QS : List Part} (h : Rm w W pv QS) (hb : Below W.heap.size W W') : Rm w W' pv QS :=
  ⟨(fun q hq => by obtain ⟨a1, a2, a3, a4, a5, a6, a7⟩ := h.1 q hq; exact ⟨a1.same (hb.block _ a6), a2, a3, a4, a5, Nat.lt_of_lt_of_le a6 hb.size, a7⟩), h.2⟩
theorem Rm.grown {w W W' : World} {pv pv' : Value} {QS : List Part} (h : Rm w W pv QS) (hg : W.grownBy W' pv.ownBlock) (hblk : pv'.ownBlock = pv.ownBlock ∨ pv'.ownBlock = some W.heap.size) : Rm w W' pv' QS :=
  by
  refine ⟨fun q hq => ?_, h.2⟩
  obtain ⟨a1, a2, a3, a4, a5, a6, a7⟩ := h.1 q hq
  refine ⟨a1.same (hg.block _ a6 (fun e => a7 e.symm)), a2, a3, a4, a5, Nat.lt_of_lt_of_le a6 hg.size, ?_⟩
  rcases hblk with e | e
  · rw [e]; exact a7
  · rw [e]
    intro h'
    have := Option.some.inj h'
    omega
theorem mark_of {W0 w8 : World} {base g c n m : Nat} {u : Value} {vs : List Value} {x : Value} (hown : w8.ownsRow base 31 1 (.slice (some ⟨g, 0, none⟩) (n + 1) c) (n + 1) (vs ++ [x])) (hg : W0.grownBy w8 u.ownBlock) (hM : W0.cell? ⟨m, 0, none⟩ = some (.int .u8 164)) (ho : ∀ k, u.ownBlock = some k → k < m) (hl : vs.length = n := by simp) :
    w8.cell? ⟨g, n, none⟩ = some x ∧ w8.cell? ⟨m, 0, none⟩ = some (.int .u8 164) := by
  refine ⟨?_, ?_⟩
  · rw [hown.cellAt n (by omega), List.getElem?_append_right (by omega), hl, Nat.sub_self]; rfl
  · rw [World.grownBy.cell_far hg ⟨m, 0, none⟩ (World.block_lt_of_cell? _ _ hM) (fun e => by have := ho m e.symm; omega)]; exact hM
theorem cell_one_sl (w : World) (x : Value) (t : TypeId) (b : Nat) (e : b = w.heap.size) : ∀ j u, [x][j]? = some u → (w.alloc (.cells #[x] t)).cell? ((⟨b, 0, none⟩ : Addr).add j) = some u := by
  subst e
  intro j u hu
  have hj : j < 1 := (List.getElem?_eq_some_iff.1 hu).1
  rw [Addr.add_mid, Nat.zero_add, World.cell?_alloc_mark, ← hu]
  obtain rfl : j = 0 := by omega
  rfl
theorem Rm.push {w W : World} {pv : Value} {QS : List Part} (h : Rm w W pv QS) {q : Part} (hq : Lnt w.heap.size W pv.ownBlock q) (hn : ∀ p ∈ QS, p.b ≠ q.b) : Rm w W pv (QS ++ [q]) := by
  refine ⟨fun p hp => ?_, ?_⟩
  · rcases List.mem_append.1 hp with hp | hp
    · exact h.1 p hp
    · rw [List.mem_singleton.1 hp]; exact hq
  · rw [List.map_append, List.nodup_append]
    refine ⟨h.2, by simp, fun a ha b hb => ?_⟩
    obtain ⟨p, hp, rfl⟩ := List.mem_map.1 ha
    simp at hb
    rw [hb]; exact hn p hp


set_option maxRecDepth 100000 in
set_option maxHeartbeats 8000000 in
theorem roomyAll_any {a : Option Addr} {bp op cp : Nat} {PS : List Part} (hs : ∀ p ∈ PS, p.X.length < 140737488351233) (hn : PS.length < 5864062014700) (ha : PS = [] ∨ a = some ⟨bp, op, none⟩) (w : World) (hP : Prts w bp op PS) :
    Calls Tryd.prog 5 #[.slice a PS.length cp] w fun e w' => ∃ g c, e = .returned (.slice (some ⟨g, 0, none⟩) PS.length c) ∧ PS.length + 1 ≤ c ∧ ∃ QS : List Part, QS.length = PS.length ∧ Prts w' g 0 QS ∧ QS.map (·.X) = PS.map (·.X) ∧ Below w.heap.size w w' ∧ (∀ q ∈ QS, Lnt w.heap.size w' (some g) q) ∧ ∃ m, w'.cell? ⟨g, PS.length, none⟩ = some (.slice (some ⟨m, 0, none⟩) 1 1) ∧ w'.cell? ⟨m, 0, none⟩ = some (.int .u8 164) := by
  obtain ⟨i1, hi, hz0, hz1, hz2⟩ := info_parts info_bytes
  have HZ : Hid (Tryd.prog.info? 31 = some i1 ∧ i1.zero = some (.slice none 0 0) ∧ i1.size = 1 ∧ i1.bytes = 24) := ⟨hi, hz0, hz1, hz2⟩
  have HA : Hid (Prts w bp op PS ∧ (PS = [] ∨ a = some ⟨bp, op, none⟩) ∧ (∀ p ∈ PS, p.X.length < 140737488351233) ∧ PS.length < 5864062014700) := ⟨hP, ha, hs, hn⟩
  have nb : (PS.length : Int) < 5864062014700 := by omega
  clear hP ha hs hi hz0 hz1 hz2 hn
  go_enter Tryd.func5, Tryd.ntmps5
  go_wp2_with fail
  go_loopg [3, 4] PS.length (fun k lv iv wr => ∃ QS : List Part, k = PS.length - QS.length ∧ QS.length ≤ PS.length ∧ iv = .int .i64 QS.length ∧ Stock w wr lv QS ∧ QS.map (·.X) = (PS.take QS.length).map (·.X) ∧ Rm w wr lv QS)
  case atStart => exact ⟨[], rfl, Nat.zero_le _, rfl, ⟨Below.refl _ _, ⟨rfl, .inl ⟨rfl, rfl⟩⟩, fun p hp => nomatch hp⟩, rfl, Rm.nil _ _ _⟩
  case round =>
    obtain ⟨QS, hk, hi9, rfl, hst, hq, hrm⟩ := hrel
    have HK : Hid (gk = PS.length - QS.length ∧ QS.length ≤ PS.length) := ⟨hk, hi9⟩
    have HF : Hid (Stock w wr u3 QS ∧ QS.map (·.X) = (PS.take QS.length).map (·.X)) := ⟨hst, hq⟩
    have RM : Hid (Rm w wr u3 QS) := hrm
    clear hk hst hq hi9 hrm
    by_cases h8 : QS.length = PS.length
    · rw [h8]
      have H8 : Hid (QS.length = PS.length ∧ QS.map (·.X) = PS.map (·.X)) := by
        refine ⟨h8, ?_⟩
        have h := HF.out.2
        rw [h8, List.take_length] at h
        exact h
      clear h8
      have PL : Hid (QS.length < 5864062014700) := show QS.length < 5864062014700 by have := HA.out.2.2.2; have := H8.out; omega
      obtain ⟨W0, kW⟩ : ∃ W0, W0 = (wr.alloc (.cells #[.int .u8 164] 5)).alloc (.cells #[.slice (some ⟨wr.heap.size, 0, none⟩) 1 1] 31) := ⟨_, rfl⟩
      have S0 : Hid (Stock w W0 u3 QS) := by
        rw [kW]
        exact HF.out.1.same (((Below.refl _ _).alloc (Nat.le_refl _) _).alloc (by simp) _)
      have R0 : Hid (Rm w W0 u3 QS) := by
        rw [kW]
        exact RM.out.same (((Below.refl _ _).alloc (Nat.le_refl _) _).alloc (by simp) _)
      have M0 : Hid (W0.cell? ⟨wr.heap.size, 0, none⟩ = some (.int .u8 164)) := by
        rw [kW]
        refine cell_keep ((Below.refl _ _).alloc (Nat.le_refl _) _) ?_
        rw [World.cell?_alloc_mark]; rfl
      have OB : Hid (∀ k, u3.ownBlock = some k → k < wr.heap.size) := fun k hk => (HF.out.1.own.lt k hk).2
      have KW : Hid (W0 = (wr.alloc (.cells #[.int .u8 164] 5)).alloc (.cells #[.slice (some ⟨wr.heap.size, 0, none⟩) 1 1] 31)) := kW
      clear kW
      go_wp2_with (at_builtin; rw [← KW.out]; refine wpList_append_own_at _ rfl _ _ 22 rfl w.heap.size 31 i1 (.slice none 0 0) 1 24 Tryd.underlying22 HZ.out.1 HZ.out.2.1 HZ.out.2.2.1 HZ.out.2.2.2 rfl (by decide) u3 _ _ rfl S0.out.own ⟨wr.heap.size + 1, 0, none⟩ 1 1 [.slice (some ⟨wr.heap.size, 0, none⟩) 1 1] rfl rfl (by rw [KW.out]; exact cell_one_sl _ _ _ _ (by simp)) (fun u hu => by simp at hu; subst hu; rfl) (by unfold maxLen; have := PL.out; omega) (by have := PL.out; omega) S0.out.below.size ?_; intro v' w8 hown hgrow hnil hblk; obtain ⟨hb8, g, c, ev, hc, hpr⟩ := S0.out.more (by decide) hown hgrow; subst ev; have I8 : Hid (Below w.heap.size w w8 ∧ Prts w8 g 0 QS ∧ QS.length + 1 ≤ c) := ⟨hb8, hpr, hc⟩; have R8 : Hid (Rm w w8 (.slice (some ⟨g, 0, none⟩) (QS.length + 1) c) QS) := R0.out.grown hgrow hblk; have M8 : Hid (w8.cell? ⟨g, QS.length, none⟩ = some (.slice (some ⟨wr.heap.size, 0, none⟩) 1 1) ∧ w8.cell? ⟨wr.heap.size, 0, none⟩ = some (.int .u8 164)) := (mark_of hown hgrow M0.out OB.out); clear hown hgrow hnil hblk hb8 hpr hc; rw [H8.out.1]; (have c1 : PS.length ≤ c := (by have := I8.out; have := H8.out; omega)); (have c2 : (PS.length : Int) ≤ (c : Int) := (by omega)))
      go_ret
      have M9 := M8.out
      rw [H8.out.1] at M9
      refine ⟨g, c, rfl, ?_, QS, H8.out.1, I8.out.2.1, H8.out.2, I8.out.1, R8.out.1, ⟨_, M9.1, M9.2⟩⟩
      have := I8.out.2.2; have := H8.out.1; omega
    · have hlt : QS.length < PS.length := by have := HK.out; omega
      have ea : a = some ⟨bp, op, none⟩ := by
        rcases HA.out.2.1 with h | h
        · rw [h] at hlt; simp at hlt
        · exact h
      subst ea
      obtain ⟨p, kp⟩ : ∃ p, p = PS.getD QS.length .none := ⟨_, rfl⟩
      have EX : Hid ((PS.take (QS.length + 1)).map (·.X) = (PS.take QS.length).map (·.X) ++ [p.X]) := by
        rw [List.take_add_one, List.map_append, kp, List.getD, List.getElem?_eq_getElem hlt]; exact rfl
      have g0 : wr.cell? ⟨bp, op + QS.length, none⟩ = some (.slice p.a p.X.length p.c) := by
        have h := (HA.out.1 QS.length hlt).1
        rw [HF.out.1.below.cell (p := ⟨bp, op + QS.length, none⟩) (World.block_lt_of_cell? w _ h), h, ← kp]
        rfl
      have OK : Hid (At p.a p.b p.o p.X ∧ Byo wr p.b p.o p.X ∧ p.X.length < 140737488355328) := by
        have h := (HA.out.1 QS.length hlt).2
        rw [← kp] at h
        refine ⟨h.1, h.2.2.keep HF.out.1.below, ?_⟩
        have hm : p ∈ PS := by rw [kp, List.getD, List.getElem?_eq_getElem hlt]; exact List.getElem_mem hlt
        have := HA.out.2.2.1 p hm
        omega
      have QL : Hid (QS.length < PS.length) := hlt
      clear kp
      go_wp2_with fail
      refine (roomy_any OK.out.2.2 OK.out.1 _ OK.out.2.1).mono ?_
      rintro e w7 ⟨rfl, hgb, hg2, hb⟩
      have hby := hgb.front
      obtain ⟨q, kq⟩ : ∃ q : Part, q = ⟨some ⟨wr.heap.size, 0, none⟩, wr.heap.size, 0, p.X.length + 9, p.X⟩ := ⟨_, rfl⟩
      have I7 : Hid (Stock w w7 u3 QS) := HF.out.1.same hb
      have nob : u3.ownBlock ≠ some wr.heap.size := fun e => absurd (HF.out.1.own.lt _ e).2 (Nat.lt_irrefl _)
      have G7 : Hid (q.X = p.X ∧ q.ok w7 ∧ (q.a = none → q.c = 0) ∧ (q.X = [] ∨ (w.heap.size ≤ q.b ∧ q.b < w7.heap.size ∧ u3.ownBlock ≠ some q.b)) ∧ q.val = .slice (some ⟨wr.heap.size, 0, none⟩) p.X.length (p.X.length + 9)) := by
        rw [kq]
        exact ⟨rfl, ⟨.inr rfl, Nat.le_add_right _ _, hby⟩, (fun h => nomatch h), .inr ⟨HF.out.1.below.size, hg2, nob⟩, rfl⟩
      have R7 : Hid (Rm w w7 u3 (QS ++ [q])) := by
        refine (RM.out.same hb).push ?_ (fun p hp => ?_)
        · rw [kq]
          exact ⟨hgb, rfl, rfl, rfl, HF.out.1.below.size, hg2, nob⟩
        · have h6 := (RM.out.1 p hp).2.2.2.2.2.1
          rw [kq]
          show p.b ≠ wr.heap.size
          omega
      clear hg2 hby hb kq hgb nob
      have PL : Hid (QS.length < 5864062014700) := show QS.length < 5864062014700 by have := HA.out.2.2.2; omega
      generalize wr.heap.size = gq at *
      go_wp2_with ((at_builtin; go_loud (refine wpList_append_own_at _ rfl _ _ 22 rfl w.heap.size 31 i1 (.slice none 0 0) 1 24 Tryd.underlying22 HZ.out.1 HZ.out.2.1 HZ.out.2.2.1 HZ.out.2.2.2 rfl (by decide) u3 _ _ rfl (I7.out.own.alloc _) ⟨w7.heap.size, 0, none⟩ 1 1 [.slice (some ⟨gq, 0, none⟩) p.X.length (p.X.length + 9)] rfl rfl (cell_one_sl _ _ _ _ rfl) (fun u hu => by simp at hu; subst hu; rfl) (by unfold maxLen; have := PL.out; omega) (by have := PL.out; omega) (by have := I7.out.below.size; simp; omega) ?_); intro v' w8 hown hgrow hnil hblk))
      have I8 : Hid (Stock w w8 v' (QS ++ [q])) := by
        have hb := (Below.refl w7.heap.size w7).alloc (Nat.le_refl _) (.cells #[.slice (some ⟨gq, 0, none⟩) p.X.length (p.X.length + 9)] 31)
        refine (I7.out.same hb).push (p := q) ?_ (by rw [G7.out.2.2.2.2]; exact hown) hgrow hblk
        obtain ⟨_, ⟨q1, q2, q3⟩, q4, q5, _⟩ := G7.out
        refine ⟨⟨q1, q2, q3.keep hb⟩, q4, ?_⟩
        rcases q5 with h | ⟨h1, h2, h3⟩
        · exact .inl h
        · exact .inr ⟨h1, Nat.lt_of_lt_of_le h2 hb.size, h3⟩
      have R8 : Hid (Rm w w8 v' (QS ++ [q])) := (R7.out.same ((Below.refl _ _).alloc (Nat.le_refl _) _)).grown hgrow hblk
      clear hown hgrow hnil hblk I7 R7
      go_roundg (PS.length - (QS.length + 1))
      case measure => have := HK.out; have := QL.out; omega
      case rel =>
        refine ⟨QS ++ [q], by simp, by have := QL.out; simp; omega, by simp, I8.out, ?_, R8.out⟩
        rw [List.length_append, List.length_singleton, EX.out, List.map_append, HF.out.2, ← G7.out.1]
        rfl

theorem mark_byte {W : World} {m : Nat} (h : W.cell? ⟨m, 0, none⟩ = some (.int .u8 164)) : Byo W m 0 [164] := fun i hi => by
  obtain rfl : i = 0 := by simpa using hi
  rw [Nat.zero_add, h]
  show some (Value.int .u8 164) = some (.int .u8 (Y 164))
  rw [Y_eq]; rfl

set_option maxRecDepth 100000 in
set_option maxHeartbeats 8000000 in
theorem left_any {a : Option Addr} {bp op cp g c m B0 : Nat} {PS QS : List Part} (hs : ∀ p ∈ PS, p.X.length < 140737488351233) (hn : PS.length < 5864062014700) (ha : PS = [] ∨ a = some ⟨bp, op, none⟩) (hc : PS.length + 1 ≤ c) (hq : QS.length = PS.length) (hx : QS.map (·.X) = PS.map (·.X)) (w : World) (hP : Prts w bp op PS) (hQ : Prts w g 0 QS) (hL : ∀ q ∈ QS, Lnt B0 w (some g) q) (h1 : w.cell? ⟨g, PS.length, none⟩ = some (.slice (some ⟨m, 0, none⟩) 1 1)) (h2 : w.cell? ⟨m, 0, none⟩ = some (.int .u8 164)) :
    Calls Tryd.prog 8 #[.slice (some ⟨g, 0, none⟩) PS.length c, .slice a PS.length cp] w fun e w' => e = .returned (.bool true) ∧ Below w.heap.size w w' := by
  have HH : Hid ((PS = [] ∨ a = some ⟨bp, op, none⟩) ∧ PS.length + 1 ≤ c ∧ QS.length = PS.length ∧ (∀ p ∈ PS, p.X.length < 140737488351233)) := ⟨ha, hc, hq, hs⟩
  have PK : Hid (∀ W, Below w.heap.size w W → Prts W bp op PS) := fun W B i hi => by
    obtain ⟨h1, h2, h3, h4⟩ := hP i hi
    exact ⟨cell_keep B h1, h2, h3, h4.keep B⟩
  have QK : Hid (∀ W, Below w.heap.size w W → ∀ i, i < PS.length → W.cell? ⟨g, i, none⟩ = some (.slice (some ⟨(QS.getD i .none).b, 0, none⟩) (PS.getD i .none).X.length ((PS.getD i .none).X.length + 9)) ∧ Row8 W (QS.getD i .none).b ((PS.getD i .none).X ++ List.replicate 9 165)) := fun W B i hi => by
    have hi' : i < QS.length := by omega
    have hm : QS.getD i .none ∈ QS := by rw [List.getD, List.getElem?_eq_getElem hi']; exact List.getElem_mem hi'
    obtain ⟨l1, l2, l3, l4, l5, l6, l7⟩ := hL _ hm
    have ex : (QS.getD i .none).X = (PS.getD i .none).X := by
      have := congrArg (fun l => l[i]?) hx
      simp only [List.getElem?_map, List.getElem?_eq_getElem hi', List.getElem?_eq_getElem hi, Option.map_some, Option.some.injEq] at this
      rw [List.getD, List.getElem?_eq_getElem hi', List.getD, List.getElem?_eq_getElem hi]
      exact this
    have hc0 := (hQ i hi').1
    rw [Nat.zero_add, Part.val, l3, l2, ex] at hc0
    rw [ex] at l1
    exact ⟨cell_keep B hc0, l1.keep B l6⟩
  have MK : Hid (∀ W, Below w.heap.size w W → W.cell? ⟨g, PS.length, none⟩ = some (.slice (some ⟨m, 0, none⟩) 1 1) ∧ Byo W m 0 [164]) := fun W B => ⟨cell_keep B h1, mark_byte (cell_keep B h2)⟩
  have n1 : (PS.length : Int) < 5864062014700 := by omega
  clear hs ha hc hq hx hP hQ hL h1 h2 hn
  go_enter Tryd.func8, Tryd.ntmps8
  go_wp2_with fail
  go_loopg [5] PS.length (fun k iv wr => ∃ i : Nat, k = PS.length - i ∧ i ≤ PS.length ∧ iv = .int .i64 i ∧ Below w.heap.size w wr)
  case atStart => exact ⟨0, rfl, Nat.zero_le _, rfl, Below.refl _ _⟩
  case round =>
    obtain ⟨i, hk, hi, rfl, B⟩ := hrel
    have HK : Hid (gk = PS.length - i) := hk
    have SR : Hid (Below w.heap.size w wr) := B
    clear hk B
    by_cases h8 : i = PS.length
    · subst h8
      obtain ⟨m1, m2⟩ := MK.out wr SR.out
      have c1 : (PS.length : Int) + 1 ≤ (c : Int) := by have := HH.out.2.1; omega
      have e1 : ((PS.length : Int) + 1).toNat = PS.length + 1 := by omega
      have M2 : Hid (Byo wr m 0 [164]) := m2
      clear m2
      go_wp2_with fail
      refine calls_world (fun W => Below w.heap.size w W ∧ Byo W m 0 [164] ∧ Byo W wr.heap.size 0 [164]) ⟨SR.out.alloc SR.out.size _, M2.out.keep ((Below.refl _ _).alloc (Nat.le_refl _) _), mark_byte (by rw [World.cell?_alloc_mark]; rfl)⟩ ?_
      rintro W ⟨B, b1, b2⟩
      have sm := same_yes (X := [164]) (a := some ⟨m, 0, none⟩) (b := m) (o := 0) (c := 1) (a' := some ⟨wr.heap.size, 0, none⟩) (b' := wr.heap.size) (o' := 0) (c' := 1) (by simp) (.inr rfl) (.inr rfl) W b1 b2
      have BW : Hid (Below w.heap.size w W) := B
      clear B b1 b2 m1 M2
      refine sm.mono ?_
      clear sm
      rintro e w5 ⟨rfl, hb⟩
      have S5 : Hid (Below w.heap.size w w5) := BW.out.trans (hb.mono BW.out.size)
      clear hb
      go_wp2
      simp [bodyPost, results, Tryd.results8, go_sem]
      exact S5.out
    · have hlt : i < PS.length := by omega
      have hlt' : (i : Int) < (PS.length : Int) := by omega
      have c1 : (PS.length : Int) ≤ (c : Int) := by have := HH.out.2.1; omega
      obtain rfl : a = some ⟨bp, op, none⟩ := by
        rcases HH.out.1 with e | e
        · rw [e] at hlt; simp at hlt
        · exact e
      have g1 : ∀ d os, (grow (redrawn wr d) os).cell? ⟨g, i, none⟩ = some (.slice (some ⟨(QS.getD i .none).b, 0, none⟩) (PS.getD i .none).X.length ((PS.getD i .none).X.length + 9)) := fun d os => cell_keep (below_regrown wr d os) (QK.out wr SR.out i hlt).1
      have g2 : ∀ d os, (grow (redrawn wr d) os).cell? ⟨bp, op + i, none⟩ = some (.slice (PS.getD i .none).a (PS.getD i .none).X.length (PS.getD i .none).c) := fun d os => cell_keep (below_regrown wr d os) (PK.out wr SR.out i hlt).1
      have CC : ∀ d os, Below w.heap.size w (grow (redrawn wr d) os) := fun d os => SR.out.trans ((below_regrown wr d os).mono SR.out.size)
      have ST : Hid (∀ W, Below w.heap.size w W → Calls Tryd.prog 15 #[.slice (some ⟨(QS.getD i .none).b, 0, none⟩) (PS.getD i .none).X.length ((PS.getD i .none).X.length + 9), .slice (PS.getD i .none).a (PS.getD i .none).X.length (PS.getD i .none).c] W fun e w' => e = .returned (.bool true) ∧ Below W.heap.size W w') := fun W B => by
        have hm : PS.getD i .none ∈ PS := by rw [List.getD, List.getElem?_eq_getElem hlt]; exact List.getElem_mem hlt
        have ok := (PK.out W B i hlt).2
        exact stays_any (by have := HH.out.2.2.2 _ hm; omega) ok.1 W ok.2.2 (QK.out W B i hlt).2
      generalize PS.getD i .none = p at *
      generalize (QS.getD i .none).b = gq at *
      clear h8
      go_wp2_with fail
      refine wp_region_quiet_below (by kernel_rfl) (by kernel_rfl) ?_
      repeat
        first
          | go_big_quiet_skip
          | (go_big_quiet_want; go_big_quiet_op; go_big_quiet_on)
          | (go_big_quiet_want
             go_big_quiet_op
             apply Exists.intro
             refine ⟨fun p => ?_, ?_⟩
             · (go_at_call 15; with_reducible exact Calls.regrown_of (ST.out (grow (redrawn wr p.d) p.os) (CC p.d p.os)))
             go_big_quiet_on)
      refine wpQuiet_nil ?_
      rintro w4 ⟨r, rfl⟩
      have N4 : Hid (Below w.heap.size w (grow (redrawn wr r.d) r.os)) := CC r.d r.os
      generalize grow (redrawn wr r.d) r.os = w4 at *
      clear g1 g2 CC ST SR
      go_wp2
      go_roundg (PS.length - (i + 1))
      case measure => have := HK.out; omega
      case rel => exact ⟨i + 1, rfl, by omega, by go_num, N4.out⟩

set_option maxRecDepth 100000 in
set_option maxHeartbeats 8000000 in
theorem blof_any {a : Option Addr} {bp op cp : Nat} {PS : List Part} (hs : ∀ p ∈ PS, p.X.length < 140737488351233 ∧ (p.a = none → p.c = 0)) (hn : PS.length < 5864062014700) (ha : PS = [] ∨ a = some ⟨bp, op, none⟩) (w : World) (hP : Prts w bp op PS) (hk : KtB w ∧ RtB w) :
    Calls Tryd.prog 3 #[.slice a PS.length cp] w fun e w' => e = .returned (.bool true) ∧ Below w.heap.size w w' := by
  have HH : Hid ((∀ p ∈ PS, p.X.length < 140737488351233 ∧ (p.a = none → p.c = 0)) ∧ (PS = [] ∨ a = some ⟨bp, op, none⟩) ∧ (KtB w ∧ RtB w) ∧ PS.length < 5864062014700) := ⟨hs, ha, hk, hn⟩
  have PK : Hid (∀ W, Below w.heap.size w W → Prts W bp op PS) := fun W B i hi => by
    obtain ⟨h1, h2, h3, h4⟩ := hP i hi
    exact ⟨cell_keep B h1, h2, h3, h4.keep B⟩
  have n1 : (PS.length : Int) < 5864062014700 := by omega
  clear hs ha hk hP hn
  go_enter Tryd.func3, Tryd.ntmps3
  go_wp2_with fail
  refine (roomyAll_any (fun p hp => (HH.out.1 p hp).1) HH.out.2.2.2 HH.out.2.1 w (PK.out w (Below.refl _ _))).mono ?_
  rintro e w1 ⟨g, c, rfl, hc, QS, hq, hQ, hx, hb, hL, m, m1, m2⟩
  have S1 : Hid (Below w.heap.size w w1 ∧ PS.length + 1 ≤ c ∧ QS.length = PS.length ∧ Prts w1 g 0 QS ∧ QS.map (·.X) = PS.map (·.X) ∧ (∀ q ∈ QS, Lnt w.heap.size w1 (some g) q) ∧ w1.cell? ⟨g, PS.length, none⟩ = some (.slice (some ⟨m, 0, none⟩) 1 1) ∧ w1.cell? ⟨m, 0, none⟩ = some (.int .u8 164)) := ⟨hb, hc, hq, hQ, hx, hL, m1, m2⟩
  clear hc hq hQ hx hb hL m1 m2
  have of1 := of_any (a := some ⟨g, 0, none⟩) (bp := g) (op := 0) (cp := c) (PS := QS) (fun q hqm => by
    have : q.X ∈ PS.map (·.X) := by rw [← S1.out.2.2.2.2.1]; exact List.mem_map.2 ⟨q, hqm, rfl⟩
    obtain ⟨p, hp, e⟩ := List.mem_map.1 this
    have := (HH.out.1 p hp).1
    rw [← e]; omega) (by rw [S1.out.2.2.1]; have := HH.out.2.2.2; omega) (.inr rfl) w1 S1.out.2.2.2.1 (HH.out.2.2.1.1.keep S1.out.1)
  rw [S1.out.2.2.1, S1.out.2.2.2.2.1] at of1
  obtain ⟨F, hF⟩ : ∃ F, F = ofF (PS.map (·.X)) := ⟨_, rfl⟩
  have LF : Hid (F = ofF (PS.map (·.X)) ∧ F.length = 256) := ⟨hF, by rw [hF]; exact ofF_len _⟩
  rw [← hF] at of1
  clear hF
  go_wp2_with fail
  refine of1.mono ?_
  clear of1
  rintro e w2 ⟨rfl, hb⟩
  have B2 : Hid (Below w1.heap.size w1 w2) := hb
  have W2 : Hid (Below w.heap.size w w2) := S1.out.1.trans (hb.mono S1.out.1.size)
  clear hb
  have rf := rof_any (cp := cp) HH.out.1 (by have := HH.out.2.2.2; omega) HH.out.2.1 w2 (PK.out w2 W2.out) (HH.out.2.2.1.2.keep W2.out)
  rw [← LF.out.1] at rf
  go_wp2_with fail
  refine rf.mono ?_
  clear rf
  rintro e w3 ⟨rfl, hb⟩
  have B3 : Hid (Below w1.heap.size w1 w3) := B2.out.trans (hb.mono B2.out.size)
  have W3 : Hid (Below w.heap.size w w3) := W2.out.trans (hb.mono W2.out.size)
  clear hb B2 W2
  have eqb := fun w => eq_bloom LF.out.2 LF.out.2 w
  rw [decide_eq_true rfl] at eqb
  have lf := left_any (a := a) (bp := bp) (op := op) (cp := cp) (g := g) (c := c) (m := m) (B0 := w.heap.size) (QS := QS) (fun p hp => (HH.out.1 p hp).1) HH.out.2.2.2 HH.out.2.1 S1.out.2.1 S1.out.2.2.1 S1.out.2.2.2.2.1 w3 (PK.out w3 W3.out) (fun i hi => by
    obtain ⟨h1, h2, h3, h4⟩ := S1.out.2.2.2.1 i hi
    exact ⟨cell_keep B3.out h1, h2, h3, h4.keep B3.out⟩) (fun q hqm => by
    obtain ⟨a1, a2, a3, a4, a5, a6, a7⟩ := S1.out.2.2.2.2.2.1 q hqm
    exact ⟨a1.same (B3.out.block _ a6), a2, a3, a4, a5, Nat.lt_of_lt_of_le a6 B3.out.size, a7⟩) (cell_keep B3.out S1.out.2.2.2.2.2.2.1) (cell_keep B3.out S1.out.2.2.2.2.2.2.2)
  clear S1 B3
  generalize (byts F).toArray = FV at *
  go_wp2_with fail
  refine lf.mono ?_
  clear lf
  rintro e w4 ⟨rfl, hb⟩
  have W4 : Hid (Below w.heap.size w w4) := W3.out.trans (hb.mono W3.out.size)
  clear hb
  go_wp2
  simp [bodyPost, results, Tryd.results3, go_sem]
  exact W4.out
end Go.Proofs.YtndefnomefdhoabDoor

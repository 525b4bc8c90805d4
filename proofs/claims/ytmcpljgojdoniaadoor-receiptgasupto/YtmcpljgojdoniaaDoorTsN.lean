import Derived.Test.YtmcpljgojdoniaaDoorTsM
/- waybillplay.LentTx. -/
namespace Go.Proofs.YtmcpljgojdoniaaDoor.tq
open Go.RowKit Go.Sort
set_option maxRecDepth 100000 in
set_option maxHeartbeats 4000000 in
theorem lentP_any {a : Option Addr} {b o c : Nat} {X : List Int} (hl : X.length < 1000000000) (w : World) (hG : BtG w a b o c X) :
    Calls Tryd.prog 23 #[.slice a X.length c] w fun e w' => ∃ g cap, e = .returned (.slice (some ⟨g, 0, none⟩) X.length cap) ∧ X.length + 70 ≤ cap ∧ (w.heap.size ≤ g ∧ g < w'.heap.size) ∧ w'.rangeAt g 0 (hC (lentT X)) ∧ Below w.heap.size w w' := by
  have hc := copy_any hl w hG
  obtain ⟨i0, hi, hz0, hz1, hz2⟩ := info_parts info_byte
  obtain ⟨m, em⟩ : ∃ m, m = X.length := ⟨_, rfl⟩
  have HA : Hid (X.length = m ∧ m < 1000000000) := ⟨em.symm, by omega⟩
  rw [← em] at hc ⊢
  clear hG hl em
  go_enter Tryd.func23, Tryd.ntmps23
  go_wp2_with fail
  with_reducible refine hc.mono ?_
  rintro e w1 ⟨v1, rfl, o1, B1⟩
  clear hc
  go_wp2_with fail
  go_loopg [3, 4] 70 (fun k lv iv wr => ∃ i : Nat, k = 70 - i ∧ i ≤ 70 ∧ iv = .int .i64 i ∧ OwnB w.heap.size wr lv (X ++ List.replicate i 165) ∧ Below w.heap.size w wr)
  case atStart => exact ⟨0, rfl, by decide, rfl, by simpa using o1, B1⟩
  case round =>
    clear o1 B1
    obtain ⟨i, hk, hi9, rfl, hown, B⟩ := hrel
    have HK : Hid (gk = 70 - i) := hk
    by_cases h8 : i = 70
    · subst h8
      have el : (X ++ List.replicate 70 165).length = m + 70 := by rw [List.length_append, HA.out.1, List.length_replicate]
      obtain ⟨g, cap, e3, hcap, hb, hlt, hr⟩ := own_at hown (by omega)
      rw [el] at e3 hcap
      subst e3
      have HF : Hid ((w.heap.size ≤ g ∧ g < wr.heap.size) ∧ wr.rangeAt g 0 (hC (lentT X)) ∧ Below w.heap.size w wr) := ⟨⟨hb, hlt⟩, hr, B⟩
      clear hown B hb hlt hk el hr
      have c1 : (m : Int) ≤ (cap : Int) := by omega
      have c2 : (m : Int) + 70 ≤ (cap : Int) := by omega
      go_wp2
      simp [bodyPost, results, Tryd.results23, go_sem]
      exact ⟨g, cap, ⟨rfl, rfl⟩, hcap, HF.out⟩
    · have HF : Hid (OwnB w.heap.size wr u3 (X ++ List.replicate i 165) ∧ Below w.heap.size w wr) := ⟨hown, B⟩
      clear hown B hk
      have hlt' : (i : Int) < 70 := by omega
      have LR : Hid ((X ++ List.replicate i (165 : Int)).length = m + i ∧ m + i < 1000000070) := ⟨by rw [List.length_append, HA.out.1, List.length_replicate], by have := HA.out; omega⟩
      go_wp2_with ((at_builtin; (refine wpList_append_own_at _ rfl _ _ 56 rfl w.heap.size 5 i0 (.int .u8 0) 1 1 Tryd.underlying56 hi hz0 hz1 hz2 rfl (by decide) u3 _ _ rfl (HF.out.1.alloc _).row ⟨wr.heap.size, 0, none⟩ 1 1 [.int .u8 165] rfl rfl (cell_one_new _ _ _) (fun u hu => by simp at hu; subst hu; rfl) (by unfold maxLen; have := LR.out; omega) (by have := LR.out; omega) (by have := HF.out.2.size; simp; omega) ?_); intro v' w3 hown' hgrow3 hnil3 hblk))
      have HO : Hid (OwnB w.heap.size w3 v' (X ++ List.replicate (i + 1) 165) ∧ Below w.heap.size w w3) := by
        refine ⟨?_, ?_⟩
        · rw [← rep_snocT, ← List.append_assoc, OwnB, List.length_append, List.map_append]
          exact hown'
        · exact (HF.out.2.alloc HF.out.2.size _).grown hgrow3 (by have := HF.out.2.size; simp; omega) (fun k hk => (HF.out.1.row.lt k hk).1)
      clear hown' hgrow3 hnil3 hblk
      go_roundg (70 - (i + 1))
      case measure => have := HK.out; omega
      case rel => exact ⟨i + 1, rfl, by omega, by go_num, HO.out⟩
theorem wpAnyH_takeT {P : Program} {md : Region.Mode} {ops : Array Oper} {Q : Exit → Act → World → Prop} {S : World → Prop} {i : Nat} {oi : Oper} {v : Value} {fuel : Nat} {listed : Array Bool} {a : Act} {w : World} (d : Nat) (hi : ops[i]? = some oi) (hd : oi.dst = some d)
    (hs : Region.noSelect ops = true) (hf : Region.free md ops listed i = true) (hr : (Region.ready md ops listed).contains i = true)
    (hQ : ∀ c a w, Q (.panic c) (a.put oi.dst v) w → Q (.panic c) a w) (hy : YieldsIf P ops S oi v a) (hS : S w)
    (h : wpAnyH P md ops Q S fuel (listed.setIfInBounds i true) (a.put (some d) v) w) : wpAnyH P md ops Q S (fuel + 1) listed a w :=
  wpAnyH_take hi hs hf hr hQ hy hS (by rw [hd]; exact h)
theorem range_lt {W : World} {b o : Nat} {cs : List Value} (h : W.rangeAt b o cs) (hl : 0 < cs.length) : b < W.heap.size := World.block_lt_of_cell? W ⟨b, o + 0, none⟩ (h 0 _ (List.getElem?_eq_getElem hl))
theorem flat2_pos (ks : List (List Int)) : 0 < (flatC hC (ks ++ [mkHs, mkHs])).length := by
  rw [flatC_app, List.length_append, show flatC hC [mkHs, mkHs] = mk2 from rfl, mk2_len]; omega
theorem kworldT {K : Act → World → Prop} {a : Act} {w : World} (I : World → Prop) (h : I w) (k : ∀ V, I V → K a V) : K a w := k w h
theorem yields_midT {P : Program} {a : Act} {op : Oper} (ty : TypeId) (x : Operand) (ho : op.op = .load ty x) (b o : Nat) (hx : a.eval x = .pointer (some ⟨b, o, none⟩)) (cs : List Value) (d : TypeDesc) {w : World} (hc : w.rangeAt b o cs)
    (hu : P.underlying ty = some d) (hd : d.isRow = true) (hi : (P.info? ty).map (·.size) = some cs.length) : (execOp a.eval op).run P w = .ok (.value (.agg cs.toArray)) w := by
  unfold execOp
  simp only [ho, hx, Instr.loadAt, Instr.sureAddr, Sem.run_bind, Sem.run_pure, Result.andThen_ok, run_loadVar_mid w b o ty cs d hc hu hd hi]
theorem wp_append_rw {o : Oper} {a : Act} {K : Act → World → Prop} {Q : Exit → Act → World → Prop} {w : World} {B n : Nat} {v : Value} {xs : List Value} {sa : Option Addr} {g p m c : Nat} {news : List Value} (k bytes : Nat) (t e : TypeId) (ht : Tryd.prog.underlying t = some (.slice e)) (hI : rowInfo Tryd.prog e k bytes = true) (k0 : 0 < k)
    (s x : Operand) (ho : o.op = .call { callee := .builtin .append, args := #[s, x], argTypes := #[t, t] }) (hs : a.eval s = v) (hx : a.eval x = .slice sa m c) (h : w.ownsRow B e k v n xs) (hl : news.length = m * k) (ha : m = 0 ∨ sa = some ⟨g, p, none⟩) (hnc : sa = none → c = 0) (hr : w.rangeAt g p news) (h1 : ∀ u ∈ news, u.oneCell' = true) (hm : n + m ≤ maxLen) (hby : (n + m) * bytes ≤ 140737488355328) (hB : B ≤ w.heap.size)
    (hK : ∀ v' w', w'.ownsRow B e k v' (n + m) (xs ++ news) → w.grownBy w' v.ownBlock → (v'.ownBlock = v.ownBlock ∨ v'.ownBlock = some w.heap.size) → K (a.put o.dst v') w') : o.wp Tryd.prog a w K Q := by
  obtain ⟨v', w', hr', h2, h3, h4⟩ := run_append_rw (ty := o.type) (c := c) ht hI k0 h hl ha hnc hr h1 hm hby hB
  unfold Oper.wp execOp
  simp only [ho, resolve, invoke, builtin, Sem.run_bind, Sem.run_pure, Result.andThen_ok, List.map_toArray, List.map_cons, List.map_nil, hs, hx, hr']
  exact hK v' w' h2 h3 h4
end Go.Proofs.YtmcpljgojdoniaaDoor.tq

import Derived.Test.YtmcpljgojdoniaaDoorRcL
/- waybillplay.LentReceipt. -/
namespace Go.Proofs.YtmcpljgojdoniaaDoor.tq
open Go.RowKit Go.Sort
def ml2 : List Value := flatC lgC [mkL, mkL]
theorem ml2_eq : [Value.int .u8 165, .int .u8 90, .int .u8 0, .int .u8 0, .int .u8 0, .int .u8 0, .int .u8 0, .int .u8 0, .int .u8 0, .int .u8 0, .int .u8 0, .int .u8 0, .int .u8 0, .int .u8 0, .int .u8 0, .int .u8 0, .int .u8 0, .int .u8 0, .int .u8 0, .int .u8 0, .slice none 0 0, .slice none 0 0, .int .u8 165, .int .u8 90, .int .u8 0, .int .u8 0, .int .u8 0, .int .u8 0, .int .u8 0, .int .u8 0, .int .u8 0, .int .u8 0, .int .u8 0, .int .u8 0, .int .u8 0, .int .u8 0, .int .u8 0, .int .u8 0, .int .u8 0, .int .u8 0, .int .u8 0, .int .u8 0, .slice none 0 0, .slice none 0 0] = ml2 := rfl
theorem ml2_len : ml2.length = 2 * 22 := rfl
theorem ml2_one : ∀ u ∈ ml2, u.oneCell' = true := lgs_one _
theorem ml2_new {W : World} {t : TypeId} : (W.alloc (.cells #[.int .u8 165, .int .u8 90, .int .u8 0, .int .u8 0, .int .u8 0, .int .u8 0, .int .u8 0, .int .u8 0, .int .u8 0, .int .u8 0, .int .u8 0, .int .u8 0, .int .u8 0, .int .u8 0, .int .u8 0, .int .u8 0, .int .u8 0, .int .u8 0, .int .u8 0, .int .u8 0, .slice none 0 0, .slice none 0 0, .int .u8 165, .int .u8 90, .int .u8 0, .int .u8 0, .int .u8 0, .int .u8 0, .int .u8 0, .int .u8 0, .int .u8 0, .int .u8 0, .int .u8 0, .int .u8 0, .int .u8 0, .int .u8 0, .int .u8 0, .int .u8 0, .int .u8 0, .int .u8 0, .int .u8 0, .int .u8 0, .slice none 0 0, .slice none 0 0] t)).rangeAt W.heap.size 0 ml2 := by rw [← ml2_eq]; exact new_range
theorem list_20R {l : List Int} (h : l.length = 20) : ∃ a0 a1 a2 a3 a4 a5 a6 a7 a8 a9 a10 a11 a12 a13 a14 a15 a16 a17 a18 a19, l = [a0, a1, a2, a3, a4, a5, a6, a7, a8, a9, a10, a11, a12, a13, a14, a15, a16, a17, a18, a19] := by
  match l, h with
  | [a0, a1, a2, a3, a4, a5, a6, a7, a8, a9, a10, a11, a12, a13, a14, a15, a16, a17, a18, a19], _ => exact ⟨a0, a1, a2, a3, a4, a5, a6, a7, a8, a9, a10, a11, a12, a13, a14, a15, a16, a17, a18, a19, rfl⟩
theorem built_lgR (c0 c1 c2 c3 c4 c5 c6 c7 c8 c9 c10 c11 c12 c13 c14 c15 c16 c17 c18 c19 : Value) (a : Option Addr) (n c : Nat) (a2 : Option Addr) (n2 d2 : Nat) : Tryd.prog.built 58 [(0, .agg #[c0, c1, c2, c3, c4, c5, c6, c7, c8, c9, c10, c11, c12, c13, c14, c15, c16, c17, c18, c19]), (1, .slice a n c), (2, .slice a2 n2 d2)] = some #[c0, c1, c2, c3, c4, c5, c6, c7, c8, c9, c10, c11, c12, c13, c14, c15, c16, c17, c18, c19, .slice a n c, .slice a2 n2 d2] := by kernel_rfl
theorem yields_lg {a : Act} {o : Oper} {x y z : Operand} {sa sa2 : Option Addr} {n c n2 d2 : Nat} {c0 c1 c2 c3 c4 c5 c6 c7 c8 c9 c10 c11 c12 c13 c14 c15 c16 c17 c18 c19 : Value} {w : World} (ho : o.op = .build 58 #[(0, x), (1, y), (2, z)]) (hx : a.eval x = .agg #[c0, c1, c2, c3, c4, c5, c6, c7, c8, c9, c10, c11, c12, c13, c14, c15, c16, c17, c18, c19]) (hy : a.eval y = .slice sa n c) (hz : a.eval z = .slice sa2 n2 d2) : (execOp a.eval o).run Tryd.prog w = .ok (.value (.agg #[c0, c1, c2, c3, c4, c5, c6, c7, c8, c9, c10, c11, c12, c13, c14, c15, c16, c17, c18, c19, .slice sa n c, .slice sa2 n2 d2])) w := by
  have e : ((#[(0, x), (1, y), (2, z)] : Array (Nat × Operand)).map fun (i, x) => (i, a.eval x)).toList = [(0, .agg #[c0, c1, c2, c3, c4, c5, c6, c7, c8, c9, c10, c11, c12, c13, c14, c15, c16, c17, c18, c19]), (1, .slice sa n c), (2, .slice sa2 n2 d2)] := by simp [hx, hy, hz]
  have hr := run_build (P := Tryd.prog) w 58 ((#[(0, x), (1, y), (2, z)] : Array (Nat × Operand)).map fun (i, x) => (i, a.eval x)) _ (by rw [e]; exact built_lgR c0 c1 c2 c3 c4 c5 c6 c7 c8 c9 c10 c11 c12 c13 c14 c15 c16 c17 c18 c19 sa n c sa2 n2 d2)
  unfold execOp
  simp only [ho, Sem.run_bind, hr, Result.andThen_ok, Sem.run_pure]
set_option maxRecDepth 100000 in
set_option maxHeartbeats 40000000 in
theorem lentR_any {r : Rc} (hn : Hid (BdR r)) (w : World) (hM : MkH w) (hA : MkA w) (hG : RcG w r) :
    Calls Tryd.prog 6 #[.agg (rcC r).toArray] w fun e w' => ∃ u, e = .returned (.agg (rcC u).toArray) ∧ RcM w' u r ∧ Below w.heap.size w w' ∧ RcP w.heap.size u r := by
  have CR : Hid (∀ (W : World) b, W.rangeAt b 0 (rcC r) → W.cell? ⟨b, 292, none⟩ = some (.slice r.La r.Ll.length r.Lc)) := fun W b h => by have := rc_last hG.root.1 hG.bl.1 h; rwa [Nat.zero_add] at this
  have CL : Hid ((rcC r).length = 293) := rcC_len hG.root.1 hG.bl.1
  have CO : Hid (∀ u ∈ rcC r, u.oneCell' = true) := rcC_one r
  have CS : Hid ((Tryd.prog.info? 30).map (·.size) = some (rcC r).length) := by show _ = _; rw [CL.out]; exact size_rc
  have KT : Hid (∀ i, i < r.Ll.length → ∀ W, Below w.heap.size w W → Calls Tryd.prog 14 #[.slice (r.Ll.getD i zLg).Ta (r.Ll.getD i zLg).Tl.length (r.Ll.getD i zLg).Tc] W fun e w' => ∃ g cap, e = .returned (.slice (some ⟨g, 0, none⟩) (r.Ll.getD i zLg).Tl.length cap) ∧ (r.Ll.getD i zLg).Tl.length + 2 ≤ cap ∧ W.heap.size ≤ g ∧ g < w'.heap.size ∧ w'.rangeAt g 0 (flatC hC ((r.Ll.getD i zLg).Tl ++ [mkHs, mkHs])) ∧ Below W.heap.size W w') := fun i hi W B => lentH_any (hn.out.2 i hi).1 W (hM.keep B) ((hG.L.2.2 i hi).1.T.keep B)
  have KD : Hid (∀ i, i < r.Ll.length → ∀ W, Below w.heap.size w W → Calls Tryd.prog 23 #[.slice (r.Ll.getD i zLg).Da (r.Ll.getD i zLg).Dl.length (r.Ll.getD i zLg).Dc] W fun e w' => ∃ g cap, e = .returned (.slice (some ⟨g, 0, none⟩) (r.Ll.getD i zLg).Dl.length cap) ∧ (r.Ll.getD i zLg).Dl.length + 70 ≤ cap ∧ (W.heap.size ≤ g ∧ g < w'.heap.size) ∧ w'.rangeAt g 0 (hC (lentT (r.Ll.getD i zLg).Dl)) ∧ Below W.heap.size W w') := fun i hi W B => lentP_any (hn.out.2 i hi).2 W ((hG.L.2.2 i hi).1.D.keep B)
  have GL : Hid (LsG w r.La r.Lb r.Lo r.Lc r.Ll) := hG.L
  have NB : Hid (r.Ll.length < 100000000) := hn.out.1
  have n1 : (r.Ll.length : Int) < 100000000 := by have := NB.out; omega
  have TO : Hid (r.root.length = 32 ∧ r.bl.length = 256) := ⟨hG.root.1, hG.bl.1⟩
  have MA : Hid (w.rangeAt 0 0 (hC mkAd)) := hA
  obtain ⟨C, hC0⟩ : ∃ C, C = rcC r := ⟨_, rfl⟩
  have HC0 : Hid (C = rcC r) := hC0
  rw [← hC0] at CR CL CO CS ⊢
  clear hC0 hM hA hG
  go_enter Tryd.func6, Tryd.ntmps6
  go_wp2_with first
    | (refine wpList_boxT rfl 30 _ rfl C rfl ?_; intro b1 W1 h1 BB r1)
    | (refine wpList_allocT rfl 30 rfl (some 2) rfl 293 344 rI_r ?_; intro b2 W2 h2 B9 t2; replace BB := BB.trans (B9.mono BB.size); replace r1 := range_keep r1 B9; clear B9)
    | (refine wpList_load_midT rfl 30 _ rfl b1 0 rfl C _ r1 Tryd.underlying30 rfl CS.out ?_)
    | (refine wpList_allocT rfl 30 rfl (some 3) rfl 293 344 rI_r ?_; intro b3 W3 h3 B9 t3; replace BB := BB.trans (B9.mono BB.size); replace r1 := range_keep r1 B9; replace t2 := there_keepT t2 (show b2 < W2.heap.size by have := h2.out; omega) B9; have n13 : Hid (b1 ≠ b3) := (show b1 ≠ b3 by have := h1.out; have := h2.out; have := h3.out; omega); have n23 : Hid (b2 ≠ b3) := (show b2 ≠ b3 by have := h1.out; have := h2.out; have := h3.out; omega); have L3 : Hid (w.heap.size ≤ b3 ∧ w.heap.size ≤ b2 ∧ b1 < b2 ∧ b2 < b3) := (show w.heap.size ≤ b3 ∧ w.heap.size ≤ b2 ∧ b1 < b2 ∧ b2 < b3 by have := h1.out; have := h2.out; have := h3.out; omega); have L4 : Hid (b3 < W3.heap.size) := (show b3 < W3.heap.size by have := h3.out; omega); clear B9 h1 h2 h3)
    | (refine wpList_storeT rfl 30 _ _ rfl b3 C rfl rfl (by rw [CL.out]; exact t3) CS.out CO.out ?_; intro W4 u9 r3 t9; clear t3; have t3 : W4.there b3 0 293 := (by rw [CL.out] at t9; exact t9); replace BB := u9.below L3.out.1 BB; replace r1 := range_same r1 (u9.block _ n13.out); replace t2 := there_same t2 (u9.block _ n23.out); replace L4 : Hid (b3 < W4.heap.size) := (show b3 < W4.heap.size by rw [u9.size]; exact L4.out); clear u9 t9)
  have HV : Hid (Below w.heap.size w W4 ∧ W4.rangeAt b1 0 C ∧ W4.there b2 0 293 ∧ W4.rangeAt b3 0 C ∧ W4.there b3 0 293 ∧ b3 < W4.heap.size) := ⟨BB, r1, t2, r3, t3, L4.out⟩
  clear r1 t2 r3 t3 L4 BB
  go_loopg [4, 5] r.Ll.length (fun k av iv wr => ∃ (i : Nat) (es : List Lg), k = r.Ll.length - i ∧ i ≤ r.Ll.length ∧ iv = .int .i64 (i : Int) ∧ es.length = i ∧ wr.ownsRow W4.heap.size 58 22 av i (flatC lgC es) ∧ (∀ j, j < i → LgM wr (es.getD j zLg) (r.Ll.getD j zLg) ∧ (av.ownBlock ≠ some (es.getD j zLg).Tb ∧ av.ownBlock ≠ some (es.getD j zLg).Db) ∧ W4.heap.size ≤ (es.getD j zLg).Tb ∧ W4.heap.size ≤ (es.getD j zLg).Db) ∧ Below W4.heap.size W4 wr)
  case atStart => exact ⟨0, [], rfl, Nat.zero_le _, rfl, rfl, World.ownsRow_nil _ _ _ _, fun j hj => absurd hj (Nat.not_lt_zero _), Below.refl _ _⟩
  case round =>
    obtain ⟨i, es, hk, hi, rfl, hes, hown, hky, B⟩ := hrel
    have HK : Hid (gk = r.Ll.length - i ∧ es.length = i ∧ wr.ownsRow W4.heap.size 58 22 u4 i (flatC lgC es) ∧ (∀ j, j < i → LgM wr (es.getD j zLg) (r.Ll.getD j zLg) ∧ (u4.ownBlock ≠ some (es.getD j zLg).Tb ∧ u4.ownBlock ≠ some (es.getD j zLg).Db) ∧ W4.heap.size ≤ (es.getD j zLg).Tb ∧ W4.heap.size ≤ (es.getD j zLg).Db) ∧ Below W4.heap.size W4 wr) := ⟨hk, hes, hown, hky, B⟩
    have cE : wr.cell? ⟨b1, 292, none⟩ = some (.slice r.La r.Ll.length r.Lc) := CR.out _ _ (range_keep HV.out.2.1 B)
    clear hk hes hown hky B
    by_cases h8 : i = r.Ll.length
    · subst h8
      have rA : wr.rangeAt 0 0 [.int .u8 165, .int .u8 90, .int .u8 0, .int .u8 0, .int .u8 0, .int .u8 0, .int .u8 0, .int .u8 0, .int .u8 0, .int .u8 0, .int .u8 0, .int .u8 0, .int .u8 0, .int .u8 0, .int .u8 0, .int .u8 0, .int .u8 0, .int .u8 0, .int .u8 0, .int .u8 0] := range_keep (range_keep MA.out HV.out.1) HK.out.2.2.2.2
      clear hi
      go_wp2_with first
        | (refine wpList_load_midT rfl 54 _ rfl 0 0 rfl [.int .u8 165, .int .u8 90, .int .u8 0, .int .u8 0, .int .u8 0, .int .u8 0, .int .u8 0, .int .u8 0, .int .u8 0, .int .u8 0, .int .u8 0, .int .u8 0, .int .u8 0, .int .u8 0, .int .u8 0, .int .u8 0, .int .u8 0, .int .u8 0, .int .u8 0, .int .u8 0] _ rA Tryd.underlying54 rfl size_ad ?_)
        | (at_builtin; refine wpList_append_rw (B := W4.heap.size) (n := r.Ll.length) (v := u4) (xs := flatC lgC es) (g := wr.heap.size) (p := 0) (m := 2) (news := ml2) 22 72 28 58 Tryd.underlying28 rI_g (by decide) rfl _ _ rfl rfl rfl (HK.out.2.2.1.alloc _) ml2_len (.inr rfl) (fun e => by cases e) ml2_new ml2_one (by have := NB.out; unfold maxLen; omega) (by have := NB.out; omega) (by have := HK.out.2.2.2.2.size; rw [World.size_alloc]; omega) ?_; intro v2 W13 o2 g2 p2; have B13 : Below W4.heap.size W4 W13 := (HK.out.2.2.2.2.alloc HK.out.2.2.2.2.size _).grown g2 (by have := HK.out.2.2.2.2.size; rw [World.size_alloc]; omega) (fun k hk => (HK.out.2.2.1.lt k hk).1); have ky : Hid (∀ j, j < r.Ll.length → LgM W13 (es.getD j zLg) (r.Ll.getD j zLg) ∧ W4.heap.size ≤ (es.getD j zLg).Tb ∧ W4.heap.size ≤ (es.getD j zLg).Db) := (fun j hj => ⟨((HK.out.2.2.2.1 j hj).1.keep ((Below.refl _ _).alloc (Nat.le_refl _) _)).grown g2 (HK.out.2.2.2.1 j hj).2.1.1 (HK.out.2.2.2.1 j hj).2.1.2, (HK.out.2.2.2.1 j hj).2.2⟩); obtain ⟨gE, cE2, e2, hcE, hbE, hltE, lE⟩ := own_at o2 (by omega); subst e2; have cE3 : (r.Ll.length : Int) ≤ (cE2 : Int) := (by omega); have HE : Hid (W13.rangeAt gE 0 (flatC lgC (es ++ [mkL, mkL])) ∧ W4.heap.size ≤ gE ∧ r.Ll.length + 2 ≤ cE2) := ⟨(by rw [flatC_app]; exact lE), hbE, hcE⟩; clear o2 g2 p2 hbE hltE lE hcE rA)
        | (refine wpList_load_cellT rfl 28 _ rfl b1 292 rfl (.slice r.La r.Ll.length r.Lc) _ (CR.out _ _ (range_keep HV.out.2.1 B13)) Tryd.underlying28 rfl ?_)
        | (refine wpList_store1T rfl 28 _ _ rfl b3 292 (.slice (some ⟨gE, 0, none⟩) r.Ll.length cE2) C rfl rfl rfl rfl size_1l (range_keep HV.out.2.2.2.1 B13) (by rw [CL.out]; exact there_keepT HV.out.2.2.2.2.1 HV.out.2.2.2.2.2 B13) (by rw [CL.out]; decide) ?_; intro W14 u9 r9 t9)
        | (refine wpList_load_midT rfl 30 _ rfl b3 0 rfl (C.set 292 (.slice (some ⟨gE, 0, none⟩) r.Ll.length cE2)) _ r9 Tryd.underlying30 rfl (by rw [List.length_set, CL.out]; exact size_rc) ?_)
        | (refine wpList_storeT rfl 30 _ _ rfl b2 (C.set 292 (.slice (some ⟨gE, 0, none⟩) r.Ll.length cE2)) rfl rfl (by rw [List.length_set, CL.out]; exact there_same (there_keepT HV.out.2.2.1 (show b2 < W4.heap.size by have := HV.out.2.2.2.2.2; have := L3.out; omega) B13) (u9.block _ n23.out)) (by rw [List.length_set, CL.out]; exact size_rc) (fun u hu => by rcases List.mem_or_eq_of_mem_set hu with h | h; exact CO.out u h; subst h; rfl) ?_; intro W15 v9 r10 t10)
      have ee := rcC_set TO.out.1 TO.out.2 gE cE2 es HK.out.2.1
      rw [← HC0.out] at ee
      rw [ee] at r10
      have e93 : (rcC { r with La := some ⟨gE, 0, none⟩, Lb := gE, Lo := 0, Lc := cE2, Ll := es }).length = 293 := rcC_len TO.out.1 TO.out.2
      have ld := run_loadVar_mid (P := Tryd.prog) W15 b2 0 30 _ _ r10 Tryd.underlying30 rfl (by rw [e93]; exact size_rc)
      have hv := HV.out
      have hl3 := L3.out
      have k14 : ∀ k, b3 < k → W15.heap[k]? = W13.heap[k]? := fun k hk => (v9.block k (by omega)).trans (u9.block k (by omega))
      have B15 : Below w.heap.size w W15 := v9.below hl3.2.1 (u9.below hl3.1 (hv.1.trans (B13.mono hv.1.size)))
      refine bodyPost_ret (v := .agg (rcC { r with La := some ⟨gE, 0, none⟩, Lb := gE, Lo := 0, Lc := cE2, Ll := es }).toArray) ?_ rfl ⟨_, rfl, ⟨⟨rfl, rfl, rfl, rfl, rfl, rfl⟩, ⟨HK.out.2.1, rfl, rfl, HE.out.2.2, range_same HE.out.1 (k14 _ (Nat.lt_of_lt_of_le hv.2.2.2.2.2 HE.out.2.1))⟩, fun i hi => ?_⟩, B15, Nat.le_trans hv.1.size HE.out.2.1, fun i hi => ⟨Nat.le_trans hv.1.size (ky.out i hi).2.1, Nat.le_trans hv.1.size (ky.out i hi).2.2⟩⟩
      · clear HV HK HE
        simp [results, Tryd.results6, asAddr, ld, Act.put]
      · have kk := ky.out i hi
        exact kk.1.same (k14 _ (Nat.lt_of_lt_of_le hv.2.2.2.2.2 kk.2.1)) (k14 _ (Nat.lt_of_lt_of_le hv.2.2.2.2.2 kk.2.2))
    · have hlt : i < r.Ll.length := by omega
      have hlt' : (i : Int) < (r.Ll.length : Int) := by omega
      have eA : r.La = some ⟨r.Lb, r.Lo, none⟩ := by
        rcases GL.out.2.1 with h | h
        · rw [h] at hlt; exact absurd hlt (Nat.not_lt_zero _)
        · exact h
      rw [eA] at cE
      have G1 : Hid (LgG w (r.Ll.getD i zLg) ∧ w.rangeAt r.Lb (r.Lo + i * 22) (lgC (r.Ll.getD i zLg))) := GL.out.2.2 i hlt
      have KC : Hid (∀ W, Below W4.heap.size W4 W → Calls Tryd.prog 14 #[.slice (r.Ll.getD i zLg).Ta (r.Ll.getD i zLg).Tl.length (r.Ll.getD i zLg).Tc] W fun e w' => ∃ g cap, e = .returned (.slice (some ⟨g, 0, none⟩) (r.Ll.getD i zLg).Tl.length cap) ∧ (r.Ll.getD i zLg).Tl.length + 2 ≤ cap ∧ W.heap.size ≤ g ∧ g < w'.heap.size ∧ w'.rangeAt g 0 (flatC hC ((r.Ll.getD i zLg).Tl ++ [mkHs, mkHs])) ∧ Below W.heap.size W w') := fun W BW => KT.out i hlt W (HV.out.1.trans (BW.mono HV.out.1.size))
      have KC2 : Hid (∀ W, Below W4.heap.size W4 W → Calls Tryd.prog 23 #[.slice (r.Ll.getD i zLg).Da (r.Ll.getD i zLg).Dl.length (r.Ll.getD i zLg).Dc] W fun e w' => ∃ g cap, e = .returned (.slice (some ⟨g, 0, none⟩) (r.Ll.getD i zLg).Dl.length cap) ∧ (r.Ll.getD i zLg).Dl.length + 70 ≤ cap ∧ (W.heap.size ≤ g ∧ g < w'.heap.size) ∧ w'.rangeAt g 0 (hC (lentT (r.Ll.getD i zLg).Dl)) ∧ Below W.heap.size W w') := fun W BW => KD.out i hlt W (HV.out.1.trans (BW.mono HV.out.1.size))
      obtain ⟨x, hx⟩ : ∃ x, r.Ll.getD i zLg = x := ⟨_, rfl⟩
      have HX : Hid (r.Ll.getD i zLg = x) := hx
      rw [hx] at G1 KC KC2
      obtain ⟨a0, a1, a2, a3, a4, a5, a6, a7, a8, a9, a10, a11, a12, a13, a14, a15, a16, a17, a18, a19, ha⟩ := list_20R G1.out.1.adr.1
      have HA : Hid (x.adr = [a0, a1, a2, a3, a4, a5, a6, a7, a8, a9, a10, a11, a12, a13, a14, a15, a16, a17, a18, a19]) := ha
      obtain ⟨X, hX0⟩ : ∃ X, X = lgC x := ⟨_, rfl⟩
      have HX0 : Hid (X = lgC x) := hX0
      have XL : Hid (X.length = 22) := (show X.length = 22 by rw [hX0]; exact lgC_len G1.out.1.adr.1)
      have XO : Hid (∀ u ∈ X, u.oneCell' = true) := (by rw [hX0]; exact lgC_one x : ∀ u ∈ X, u.oneCell' = true)
      have XS : Hid ((Tryd.prog.info? 58).map (·.size) = some X.length) := (show _ = _ by rw [XL.out]; exact size_lg)
      have RX : Hid (wr.rangeAt r.Lb (r.Lo + i * 22) X) := (show wr.rangeAt _ _ X by rw [hX0]; exact range_keep G1.out.2 (HV.out.1.trans (HK.out.2.2.2.2.mono HV.out.1.size)))
      have XP : Hid (∀ (W : World) b, W.rangeAt b 0 X → W.rangeAt b 0 [.int .u8 a0, .int .u8 a1, .int .u8 a2, .int .u8 a3, .int .u8 a4, .int .u8 a5, .int .u8 a6, .int .u8 a7, .int .u8 a8, .int .u8 a9, .int .u8 a10, .int .u8 a11, .int .u8 a12, .int .u8 a13, .int .u8 a14, .int .u8 a15, .int .u8 a16, .int .u8 a17, .int .u8 a18, .int .u8 a19] ∧ W.cell? ⟨b, 20, none⟩ = some (.slice x.Ta x.Tl.length x.Tc) ∧ W.cell? ⟨b, 21, none⟩ = some (.slice x.Da x.Dl.length x.Dc)) := fun W b h => by
        rw [hX0] at h
        have := range_app.1 h
        rw [hC_len, G1.out.1.adr.1, HA.out] at this
        have q := range_app.1 this.2
        exact ⟨this.1, q.1 0 _ rfl, q.2 0 _ rfl⟩
      have B0 : Hid (Below W4.heap.size W4 wr) := HK.out.2.2.2.2
      clear h8 hi hx ha eA G1 hX0
      generalize x.Ta = xa at *
      generalize hn3 : x.Tl.length = n3 at *
      have HN3 : Hid (x.Tl.length = n3) := hn3
      clear hn3
      generalize x.Tc = xc at *
      generalize x.Da = ya at *
      generalize hn4 : x.Dl.length = n4 at *
      have HN4 : Hid (x.Dl.length = n4) := hn4
      clear hn4
      generalize x.Dc = yc at *
      go_wp2_with first
        | (refine wpList_load_midT rfl 58 _ rfl r.Lb (r.Lo + i * 22) rfl X _ RX.out Tryd.underlying58 rfl XS.out ?_)
        | (refine wpList_allocT rfl 58 rfl (some 6) rfl 22 72 rI_g ?_; intro b6 W6 h6 B6 t6)
        | (refine wpList_storeT rfl 58 _ _ rfl b6 X rfl rfl (by rw [XL.out]; exact t6) XS.out XO.out ?_; intro W7 u9 r6 t9; have B7 : Hid (Below wr.heap.size wr W7) := u9.below (show wr.heap.size ≤ b6 by have := h6.out; omega) B6; have L6 : Hid (b6 < W7.heap.size ∧ wr.heap.size ≤ b6) := (show b6 < W7.heap.size ∧ wr.heap.size ≤ b6 by rw [u9.size]; have := h6.out; omega); clear u9 t9 t6 B6 h6)
      have XW : Hid (∀ (W : World), W.rangeAt b6 0 X → W.rangeAt b6 0 [.int .u8 a0, .int .u8 a1, .int .u8 a2, .int .u8 a3, .int .u8 a4, .int .u8 a5, .int .u8 a6, .int .u8 a7, .int .u8 a8, .int .u8 a9, .int .u8 a10, .int .u8 a11, .int .u8 a12, .int .u8 a13, .int .u8 a14, .int .u8 a15, .int .u8 a16, .int .u8 a17, .int .u8 a18, .int .u8 a19] ∧ W.cell? ⟨b6, 20, none⟩ = some (.slice xa n3 xc) ∧ W.cell? ⟨b6, 21, none⟩ = some (.slice ya n4 yc)) := fun W h => XP.out W b6 h
      have B47 : Below W4.heap.size W4 W7 := B0.out.trans (B7.out.mono B0.out.size)
      have R6 : Hid (W7.rangeAt b6 0 X) := r6
      clear r6 XP RX
      refine wp_region_held_drew (S := fun w' => Below W4.heap.size W4 w' ∧ w'.rangeAt b6 0 X) (by kernel_rfl) ⟨B47.drew, R6.out⟩ (fun hHeld => ?_)
      refine wpAnyH_takeT (i := 0) (oi := _) (v := u4) 20 rfl (by kernel_rfl) (by kernel_rfl) (by kernel_rfl) (by kernel_rfl) (fun _ _ _ h => h) (Or.inl ⟨by kernel_rfl, ?_⟩) (by assumption) ?_
      · intro wq hSw
        have _ := hSw
        go_simp
      simp only [Act.put, List.setIfInBounds_toArray, List.set_cons_succ, List.set_cons_zero]
      refine wpAnyH_takeT (i := 1) (oi := _) (v := .pointer (some ⟨b6, 0, none⟩)) 21 rfl (by kernel_rfl) (by kernel_rfl) (by kernel_rfl) (by kernel_rfl) (fun _ _ _ h => h) (Or.inl ⟨by kernel_rfl, ?_⟩) (by assumption) ?_
      · intro wq hSw
        have _ := hSw
        go_simp
      simp only [Act.put, List.setIfInBounds_toArray, List.set_cons_succ, List.set_cons_zero]
      refine wpAnyH_takeT (i := 2) (oi := _) (v := .agg #[.int .u8 a0, .int .u8 a1, .int .u8 a2, .int .u8 a3, .int .u8 a4, .int .u8 a5, .int .u8 a6, .int .u8 a7, .int .u8 a8, .int .u8 a9, .int .u8 a10, .int .u8 a11, .int .u8 a12, .int .u8 a13, .int .u8 a14, .int .u8 a15, .int .u8 a16, .int .u8 a17, .int .u8 a18, .int .u8 a19]) 22 rfl (by kernel_rfl) (by kernel_rfl) (by kernel_rfl) (by kernel_rfl) (fun _ _ _ h => h) (Or.inl ⟨by kernel_rfl, ?_⟩) (by assumption) ?_
      · intro wq hSw
        exact yields_midT 54 _ rfl b6 0 rfl [.int .u8 a0, .int .u8 a1, .int .u8 a2, .int .u8 a3, .int .u8 a4, .int .u8 a5, .int .u8 a6, .int .u8 a7, .int .u8 a8, .int .u8 a9, .int .u8 a10, .int .u8 a11, .int .u8 a12, .int .u8 a13, .int .u8 a14, .int .u8 a15, .int .u8 a16, .int .u8 a17, .int .u8 a18, .int .u8 a19] _ (XW.out wq hSw.2).1 Tryd.underlying54 rfl size_ad
      simp only [Act.put, List.setIfInBounds_toArray, List.set_cons_succ, List.set_cons_zero]
      refine wpAnyH_takeT (i := 3) (oi := _) (v := .pointer (some ⟨b6, 20, none⟩)) 23 rfl (by kernel_rfl) (by kernel_rfl) (by kernel_rfl) (by kernel_rfl) (fun _ _ _ h => h) (Or.inl ⟨by kernel_rfl, ?_⟩) (by assumption) ?_
      · intro wq hSw
        have _ := hSw
        go_simp
      simp only [Act.put, List.setIfInBounds_toArray, List.set_cons_succ, List.set_cons_zero]
      refine wpAnyH_takeT (i := 4) (oi := _) (v := .slice xa n3 xc) 24 rfl (by kernel_rfl) (by kernel_rfl) (by kernel_rfl) (by kernel_rfl) (fun _ _ _ h => h) (Or.inl ⟨by kernel_rfl, ?_⟩) (by assumption) ?_
      · intro wq hSw
        have gg := (XW.out wq hSw.2).2.1
        go_simp
      simp only [Act.put, List.setIfInBounds_toArray, List.set_cons_succ, List.set_cons_zero]
      refine wpAnyH_takeT (i := 6) (oi := _) (v := .pointer (some ⟨b6, 21, none⟩)) 26 rfl (by kernel_rfl) (by kernel_rfl) (by kernel_rfl) (by kernel_rfl) (fun _ _ _ h => h) (Or.inl ⟨by kernel_rfl, ?_⟩) (by assumption) ?_
      · intro wq hSw
        have _ := hSw
        go_simp
      simp only [Act.put, List.setIfInBounds_toArray, List.set_cons_succ, List.set_cons_zero]
      refine wpAnyH_takeT (i := 7) (oi := _) (v := .slice ya n4 yc) 27 rfl (by kernel_rfl) (by kernel_rfl) (by kernel_rfl) (by kernel_rfl) (fun _ _ _ h => h) (Or.inl ⟨by kernel_rfl, ?_⟩) (by assumption) ?_
      · intro wq hSw
        have gg := (XW.out wq hSw.2).2.2
        go_simp
      simp only [Act.put, List.setIfInBounds_toArray, List.set_cons_succ, List.set_cons_zero]
      clear hHeld
      refine wpAnyH_ready (rs := [5]) (by kernel_rfl) (by simp) ?_
      refine AllReadyH.cons rfl (fun K hK => ?_) AllReadyH.nil
      go_simp
      go_wp2_with (go_at_call 14; refine (KC.out _ (by first | exact B47 | exact B47.drew)).mono ?_; rintro e y0 ⟨gT, cT, rfl, hcT, hT1, hT2, rT, hb⟩)
      have By : Below W7.heap.size W7 y0 := ((Below.refl _ _).drew).trans (hb.mono (Nat.le_refl _))
      refine hK.out _ _ ⟨B47.trans (By.mono B47.size), range_keep R6.out By⟩ (fun hHeld => ?_)
      have HY : Hid (n3 + 2 ≤ cT ∧ W7.heap.size ≤ gT ∧ gT < y0.heap.size ∧ y0.rangeAt gT 0 (flatC hC (x.Tl ++ [mkHs, mkHs]))) := ⟨hcT, hT1, hT2, rT⟩
      clear hK K hb hcT hT1 hT2 rT KC hHeld
      refine wpAnyH_ready (rs := [8]) (by kernel_rfl) (by simp) ?_
      refine AllReadyH.cons rfl (fun K hK => ?_) AllReadyH.nil
      go_simp
      go_wp2_with (go_at_call 23; refine (KC2.out _ (B47.trans (By.mono B47.size))).mono ?_; rintro e y1 ⟨gD, cD, rfl, hcD, hD1, rD, hb⟩)
      have By1 : Below W7.heap.size W7 y1 := By.trans (hb.mono By.size)
      refine hK.out _ _ ⟨B47.trans (By1.mono B47.size), range_keep R6.out By1⟩ (fun hHeld => ?_)
      have HD : Hid (n4 + 70 ≤ cD ∧ (y0.heap.size ≤ gD ∧ gD < y1.heap.size) ∧ y1.rangeAt gD 0 (hC (lentT x.Dl)) ∧ y1.rangeAt gT 0 (flatC hC (x.Tl ++ [mkHs, mkHs])) ∧ y0.heap.size ≤ y1.heap.size) := ⟨hcD, hD1, rD, range_keep HY.out.2.2.2 hb, hb.size⟩
      clear hK K hb hcD hD1 rD KC2
      refine wpAnyH_takeT (i := 9) (oi := _) (v := .agg #[.int .u8 a0, .int .u8 a1, .int .u8 a2, .int .u8 a3, .int .u8 a4, .int .u8 a5, .int .u8 a6, .int .u8 a7, .int .u8 a8, .int .u8 a9, .int .u8 a10, .int .u8 a11, .int .u8 a12, .int .u8 a13, .int .u8 a14, .int .u8 a15, .int .u8 a16, .int .u8 a17, .int .u8 a18, .int .u8 a19, .slice (some ⟨gT, 0, none⟩) n3 cT, .slice (some ⟨gD, 0, none⟩) n4 cD]) 29 rfl (by kernel_rfl) (by kernel_rfl) (by kernel_rfl) (by kernel_rfl) (fun _ _ _ h => h) (Or.inl ⟨by kernel_rfl, ?_⟩) (by assumption) ?_
      · intro wq hSw
        exact yields_lg rfl rfl rfl rfl
      simp only [Act.put, List.setIfInBounds_toArray, List.set_cons_succ, List.set_cons_zero]
      clear hHeld
      refine wpAnyH_ready (rs := [10]) (by kernel_rfl) (by simp) ?_
      refine AllReadyH.cons rfl (fun K hK => ?_) AllReadyH.nil
      go_simp
      go_wp2_with fail
      refine kworldT (fun U => Below y1.heap.size y1 U ∧ U.rangeAt y1.heap.size 0 [.int .u8 a0, .int .u8 a1, .int .u8 a2, .int .u8 a3, .int .u8 a4, .int .u8 a5, .int .u8 a6, .int .u8 a7, .int .u8 a8, .int .u8 a9, .int .u8 a10, .int .u8 a11, .int .u8 a12, .int .u8 a13, .int .u8 a14, .int .u8 a15, .int .u8 a16, .int .u8 a17, .int .u8 a18, .int .u8 a19, .slice (some ⟨gT, 0, none⟩) n3 cT, .slice (some ⟨gD, 0, none⟩) n4 cD]) ⟨(Below.refl _ _).alloc (Nat.le_refl _) _, new_range⟩ ?_
      rintro U ⟨BU, rU⟩
      have BV7 : Below W7.heap.size W7 U := By1.trans (BU.mono By1.size)
      have BVr : Below wr.heap.size wr U := B7.out.trans (BV7.mono B7.out.size)
      have BV : Below W4.heap.size W4 U := B47.trans (BV7.mono B47.size)
      refine hK.out _ _ ⟨BV, range_keep R6.out BV7⟩ (fun hHeld => ?_)
      clear hK K hHeld
      refine wpAnyH_ready (rs := [11]) (by kernel_rfl) (by simp) ?_
      refine AllReadyH.cons rfl (fun K hK => ?_) AllReadyH.nil
      refine (if_pos (by kernel_rfl)).mpr ?_
      refine wp_append_rw (B := W4.heap.size) (n := i) (v := u4) (xs := flatC lgC es) (g := y1.heap.size) (p := 0) (m := 1) (news := [.int .u8 a0, .int .u8 a1, .int .u8 a2, .int .u8 a3, .int .u8 a4, .int .u8 a5, .int .u8 a6, .int .u8 a7, .int .u8 a8, .int .u8 a9, .int .u8 a10, .int .u8 a11, .int .u8 a12, .int .u8 a13, .int .u8 a14, .int .u8 a15, .int .u8 a16, .int .u8 a17, .int .u8 a18, .int .u8 a19, .slice (some ⟨gT, 0, none⟩) n3 cT, .slice (some ⟨gD, 0, none⟩) n4 cD]) 22 72 28 58 Tryd.underlying28 rI_g (by decide) (.tmp 20) (.tmp 30) rfl rfl rfl (row_keep HK.out.2.2.1 BVr) rfl (.inr rfl) (fun e => by cases e) rU (by intro u hu; simp only [List.mem_cons, List.not_mem_nil, or_false] at hu; rcases hu with h | h | h | h | h | h | h | h | h | h | h | h | h | h | h | h | h | h | h | h | h | h <;> (subst h; rfl)) (by have := NB.out; unfold maxLen; omega) (by have := NB.out; omega) BV.size ?_
      intro v' W13 o3 g3 p3
      have ow : ∀ k, u4.ownBlock = some k → k < wr.heap.size := fun k hk => (HK.out.2.2.1.lt k hk).2
      have BW : Below W4.heap.size W4 W13 := BV.grown g3 BV.size (fun k hk => (HK.out.2.2.1.lt k hk).1)
      refine hK.out _ _ ⟨BW, range_grown (range_keep R6.out BV7) g3 (fun e => by have := ow _ e; have := L6.out; omega)⟩ (fun hHeld => ?_)
      have s0 := B7.out.size
      have s1 := By.size
      have s2 := HD.out.2.2.2.2
      have s3 := BU.size
      have REL : Hid (∃ es' : List Lg, es'.length = i + 1 ∧ W13.ownsRow W4.heap.size 58 22 v' (i + 1) (flatC lgC es') ∧ (∀ j, j < i + 1 → LgM W13 (es'.getD j zLg) (r.Ll.getD j zLg) ∧ (v'.ownBlock ≠ some (es'.getD j zLg).Tb ∧ v'.ownBlock ≠ some (es'.getD j zLg).Db) ∧ W4.heap.size ≤ (es'.getD j zLg).Tb ∧ W4.heap.size ≤ (es'.getD j zLg).Db)) := by
        refine ⟨es ++ [⟨[a0, a1, a2, a3, a4, a5, a6, a7, a8, a9, a10, a11, a12, a13, a14, a15, a16, a17, a18, a19], some ⟨gT, 0, none⟩, gT, 0, cT, x.Tl, some ⟨gD, 0, none⟩, gD, 0, cD, x.Dl⟩], by simp [HK.out.2.1], ?_, fun j hj => ?_⟩
        · rw [flatC_app]
          have e1 : flatC lgC [⟨[a0, a1, a2, a3, a4, a5, a6, a7, a8, a9, a10, a11, a12, a13, a14, a15, a16, a17, a18, a19], some ⟨gT, 0, none⟩, gT, 0, cT, x.Tl, some ⟨gD, 0, none⟩, gD, 0, cD, x.Dl⟩] = [.int .u8 a0, .int .u8 a1, .int .u8 a2, .int .u8 a3, .int .u8 a4, .int .u8 a5, .int .u8 a6, .int .u8 a7, .int .u8 a8, .int .u8 a9, .int .u8 a10, .int .u8 a11, .int .u8 a12, .int .u8 a13, .int .u8 a14, .int .u8 a15, .int .u8 a16, .int .u8 a17, .int .u8 a18, .int .u8 a19, .slice (some ⟨gT, 0, none⟩) n3 cT, .slice (some ⟨gD, 0, none⟩) n4 cD] := by rw [← HN3.out, ← HN4.out]; rfl
          rw [e1]
          exact o3
        · by_cases c : j < i
          · rw [getD_app (by rw [HK.out.2.1]; exact c)]
            obtain ⟨k1, k2, k3⟩ := HK.out.2.2.2.1 j c
            have lb : (es.getD j zLg).Tb < wr.heap.size := range_lt k1.T.2.2.2 (flat2_pos _)
            have lb2 : (es.getD j zLg).Db < wr.heap.size := range_lt k1.D.2.2.2 (by rw [hC_len, lentT_len]; omega)
            refine ⟨(k1.keep BVr).grown g3 k2.1 k2.2, ⟨fun e => ?_, fun e => ?_⟩, k3⟩
            · rcases p3 with h | h
              · rw [h] at e; exact k2.1 e
              · rw [h] at e; have := Option.some.inj e; omega
            · rcases p3 with h | h
              · rw [h] at e; exact k2.2 e
              · rw [h] at e; have := Option.some.inj e; omega
          · obtain rfl : j = i := by omega
            have e0 : (es ++ [(⟨[a0, a1, a2, a3, a4, a5, a6, a7, a8, a9, a10, a11, a12, a13, a14, a15, a16, a17, a18, a19], some ⟨gT, 0, none⟩, gT, 0, cT, x.Tl, some ⟨gD, 0, none⟩, gD, 0, cD, x.Dl⟩ : Lg)]).getD j zLg = ⟨[a0, a1, a2, a3, a4, a5, a6, a7, a8, a9, a10, a11, a12, a13, a14, a15, a16, a17, a18, a19], some ⟨gT, 0, none⟩, gT, 0, cT, x.Tl, some ⟨gD, 0, none⟩, gD, 0, cD, x.Dl⟩ := by
              have := getD_appR (z := zLg) (L := es) (M := [(⟨[a0, a1, a2, a3, a4, a5, a6, a7, a8, a9, a10, a11, a12, a13, a14, a15, a16, a17, a18, a19], some ⟨gT, 0, none⟩, gT, 0, cT, x.Tl, some ⟨gD, 0, none⟩, gD, 0, cD, x.Dl⟩ : Lg)]) 0
              rw [HK.out.2.1] at this
              exact this
            rw [e0, HX.out]
            have hy := HY.out
            have hd := HD.out
            have sb := B0.out.size
            have nT : u4.ownBlock ≠ some gT := fun e => by have := ow gT e; omega
            have nD : u4.ownBlock ≠ some gD := fun e => by have := ow gD e; have := hd.2.1.1; omega
            refine ⟨⟨HA.out.symm, rfl, rfl, ⟨rfl, rfl, by show x.Tl.length + 2 ≤ cT; rw [HN3.out]; exact hy.1, range_grown (range_keep hd.2.2.2.1 BU) g3 nT⟩, ⟨rfl, rfl, by show x.Dl.length + 70 ≤ cD; rw [HN4.out]; exact hd.1, range_grown (range_keep hd.2.2.1 BU) g3 nD⟩⟩, ⟨fun e => ?_, fun e => ?_⟩, ?_, ?_⟩
            · rcases p3 with h | h
              · rw [h] at e; exact nT e
              · rw [h] at e; have h5 : U.heap.size = gT := Option.some.inj e; have := hy.2.2.1; omega
            · rcases p3 with h | h
              · rw [h] at e; exact nD e
              · rw [h] at e; have h5 : U.heap.size = gD := Option.some.inj e; have := hd.2.1.2; omega
            · show W4.heap.size ≤ gT; have := hy.2.1; omega
            · show W4.heap.size ≤ gD; have := hd.2.1.1; omega
      clear hK K o3 g3 p3 BV BV7 BVr rU BU HY HD By By1 s0 s1 s2 s3 ow
      refine wpAnyH_takeT (i := 12) (oi := _) (v := v') 4 rfl (by kernel_rfl) (by kernel_rfl) (by kernel_rfl) (by kernel_rfl) (fun _ _ _ h => h) (Or.inl ⟨by kernel_rfl, ?_⟩) (by assumption) ?_
      · intro wq hSw
        have _ := hSw
        go_simp
      simp only [Act.put, List.setIfInBounds_toArray]
      refine wpAnyH_done (by kernel_rfl) ?_ _
      clear hHeld
      go_wp2
      go_roundg (r.Ll.length - (i + 1))
      case measure => have := HK.out.1; omega
      case rel =>
        obtain ⟨es', q1, q2, q3⟩ := REL.out
        exact ⟨i + 1, es', rfl, hlt, by go_num, q1, q2, q3, BW⟩
end Go.Proofs.YtmcpljgojdoniaaDoor.tq

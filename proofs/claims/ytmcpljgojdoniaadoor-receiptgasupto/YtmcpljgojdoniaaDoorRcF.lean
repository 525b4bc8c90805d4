import Derived.Test.YtmcpljgojdoniaaDoorRcE
/- waybilllaw17: sameLogs, sameReceipt. -/
namespace Go.Proofs.YtmcpljgojdoniaaDoor.tq
open Go.RowKit Go.Sort
theorem size_bl : (Tryd.prog.info? 27).map (·.size) = some 256 := by kernel_rfl
theorem eq_bl {X Y : List Int} (hx : X.length = 256) (hy : Y.length = 256) (w : World) : (Op.equalIn 10000 27 (.agg (hC X).toArray) (.agg (hC Y).toArray)).run Tryd.prog w = .ok (decide (X = Y)) w := by
  unfold hC
  rw [show (10000 : Nat) = 9999 + 1 from rfl, Op.equalIn]
  have tz : (sizeOf 5).run Tryd.prog w = .ok 1 w := by have := Tryd.sizeOf5; simp [go_sem, this]
  simp only [Sem.run_bind, run_underlying Tryd.underlying27, Result.andThen_ok, tz]
  simp only [Std.Legacy.Range.forIn_eq_forIn_range', Std.Legacy.Range.size, Nat.sub_zero, Nat.add_sub_cancel, Nat.div_one]
  have h := eq_loopJ (X := X) (Y := Y) w 256 0 (by omega) (by omega)
  rw [h, sameJ_eq hx hy]
  by_cases e : X = Y <;> simp [e]
theorem eq_self {T : TypeId} {X : List Int} (h : ∀ w, (Op.equalIn 10000 T (.agg (hC X).toArray) (.agg (hC X).toArray)).run Tryd.prog w = .ok (decide (X = X)) w) : ∀ w, (Op.equalIn 10000 T (.agg (hC X).toArray) (.agg (hC X).toArray)).run Tryd.prog w = .ok true w := fun w => by
  have := h w
  rwa [decide_eq_true rfl] at this
theorem LsG.cons {W : World} {a : Option Addr} {b o c : Nat} {ks : List Lg} (h : LsG W a b o c ks) (hi : 0 < ks.length) : a = some ⟨b, o, none⟩ := by
  rcases h.2.1 with e | e
  · rw [e] at hi; exact absurd hi (Nat.not_lt_zero _)
  · exact e
def BdL (x : Lg) : Prop := x.Tl.length < 1000000000 ∧ x.Dl.length < 1000000000
/-- What is lent is the same, and can be read. -/
theorem LgM.good {W : World} {e x : Lg} (h : LgM W e x) (g : LgG W x) : LgG W e ∧ SmL e x := by
  refine ⟨⟨by rw [h.adr]; exact g.adr, ?_, ?_⟩, h.adr, h.Tl, h.Dl⟩
  · refine ⟨⟨by rw [h.Tl]; have := h.T.2.2.1; omega, fun q => by rw [h.T.1] at q; cases q⟩, .inr (by rw [h.T.1, h.T.2.1]), fun i hi => ?_⟩
    rw [h.Tl] at hi ⊢
    refine ⟨(g.T.2.2 i hi).1, ?_⟩
    have q := flat_at [] _ 0 (lent_len g.T.len) h.T.2.2.2 i (by rw [List.length_append]; omega)
    rw [getD_app hi] at q
    rw [h.T.2.1]; exact q
  · refine ⟨⟨by rw [h.Dl]; have := h.D.2.2.1; omega, fun q => by rw [h.D.1] at q; cases q⟩, .inr (by rw [h.D.1, h.D.2.1]), ?_, by rw [h.Dl]; exact g.D.2.2.2⟩
    rw [h.Dl, h.D.2.1]
    exact bz_hC (range_app.1 (by have := h.D.2.2.2; rw [lentT, hC_app] at this; exact this)).1
set_option maxRecDepth 100000 in
set_option maxHeartbeats 16000000 in
theorem sameLogs_yes {a a' : Option Addr} {b o c b' o' c' : Nat} {es xs : List Lg} (hl : es.length = xs.length) (hn : xs.length < 1000000000) (hs : ∀ i, i < xs.length → SmL (es.getD i zLg) (xs.getD i zLg)) (hb : ∀ i, i < xs.length → BdL (xs.getD i zLg)) (w : World) (ge : LsG w a b o c es) (gx : LsG w a' b' o' c' xs) :
    Calls Tryd.prog 24 #[.slice a es.length c, .slice a' xs.length c'] w fun e w' => e = .returned (.bool true) ∧ Below w.heap.size w w' := by
  obtain ⟨m, em⟩ : ∃ m, m = xs.length := ⟨_, rfl⟩
  have n1 : (m : Int) < 1000000000 := by omega
  have SK : Hid (∀ i, i < m → ∀ W, Below w.heap.size w W → Calls Tryd.prog 35 #[.agg (lgC (es.getD i zLg)).toArray, .agg (lgC (xs.getD i zLg)).toArray] W fun e w' => e = .returned (.bool true) ∧ Below W.heap.size W w') := fun i hi W B => sameLog_yes (hs i (by omega)) (hb i (by omega)) W ((ge.2.2 i (by omega)).1.keep B) ((gx.2.2 i (by omega)).1.keep B)
  have RR : Hid (∀ i, i < m → ∀ W, Below w.heap.size w W → W.rangeAt b (o + i * 22) (lgC (es.getD i zLg)) ∧ W.rangeAt b' (o' + i * 22) (lgC (xs.getD i zLg))) := fun i hi W B => ⟨range_keep (ge.2.2 i (by omega)).2 B, range_keep (gx.2.2 i (by omega)).2 B⟩
  have LL : Hid (∀ i, i < m → (Tryd.prog.info? 58).map (·.size) = some (lgC (es.getD i zLg)).length ∧ (Tryd.prog.info? 58).map (·.size) = some (lgC (xs.getD i zLg)).length) := fun i hi => ⟨by rw [lgC_len (ge.2.2 i (by omega)).1.adr.1]; exact size_lg, by rw [lgC_len (gx.2.2 i (by omega)).1.adr.1]; exact size_lg⟩
  have AA : Hid (0 < m → a = some ⟨b, o, none⟩ ∧ a' = some ⟨b', o', none⟩) := fun h => ⟨ge.cons (by omega), gx.cons (by omega)⟩
  rw [hl, ← em]
  clear hl hn hs hb ge gx em
  go_enter Tryd.func24, Tryd.ntmps24
  go_wp2_with fail
  go_loopg [5] m (fun k iv wr => ∃ i : Nat, k = m - i ∧ i ≤ m ∧ iv = .int .i64 i ∧ Below w.heap.size w wr)
  case atStart => exact ⟨0, rfl, Nat.zero_le _, rfl, Below.refl _ _⟩
  case round =>
    obtain ⟨i, hk, hi, rfl, B⟩ := hrel
    have HK : Hid (gk = m - i) := hk
    clear hk
    by_cases h8 : i = m
    · subst h8
      clear hi
      go_wp2
      simp [bodyPost, results, Tryd.results24, go_sem]
      exact B
    · have hlt : i < m := by omega
      have hlt' : (i : Int) < (m : Int) := by omega
      obtain ⟨rfl, rfl⟩ := AA.out (by omega)
      have B3 : Hid (∀ d os, Below w.heap.size w (grow (redrawn wr d) os)) := fun d os => B.trans ((below_regrown wr d os).mono B.size)
      have rb : ∀ w', (∃ q : Regrown, w' = grow (redrawn wr q.d) q.os) → w'.rangeAt b (o + i * 22) (lgC (es.getD i zLg)) := by rintro w' ⟨q, rfl⟩; exact (RR.out i hlt _ (B3.out q.d q.os)).1
      have rc : ∀ w', (∃ q : Regrown, w' = grow (redrawn wr q.d) q.os) → w'.rangeAt b' (o' + i * 22) (lgC (xs.getD i zLg)) := by rintro w' ⟨q, rfl⟩; exact (RR.out i hlt _ (B3.out q.d q.os)).2
      have ib := (LL.out i hlt).1
      have ic := (LL.out i hlt).2
      have sk : Hid (∀ d os, Calls Tryd.prog 35 #[.agg (lgC (es.getD i zLg)).toArray, .agg (lgC (xs.getD i zLg)).toArray] (grow (redrawn wr d) os) fun e w' => e = .returned (.bool true) ∧ Below (grow (redrawn wr d) os).heap.size (grow (redrawn wr d) os) w') := fun d os => SK.out i hlt _ (B3.out d os)
      clear SK RR LL AA hi
      generalize lgC (es.getD i zLg) = c1 at *
      generalize lgC (xs.getD i zLg) = c2 at *
      go_wp2_with fail
      refine wp_region_quiet_below (by kernel_rfl) (by kernel_rfl) ?_
      repeat
        first
          | go_big_quiet_skip
          | (go_big_quiet_want; refine quiet_load_midT 58 _ rfl b (o + i * 22) rfl c1 _ rb Tryd.underlying58 rfl ib ?_; simp only [Act.put, List.setIfInBounds_toArray, List.set_cons_succ, List.set_cons_zero]; go_big_quiet_on)
          | (go_big_quiet_want; refine quiet_load_midT 58 _ rfl b' (o' + i * 22) rfl c2 _ rc Tryd.underlying58 rfl ic ?_; simp only [Act.put, List.setIfInBounds_toArray, List.set_cons_succ, List.set_cons_zero]; go_big_quiet_on)
          | (go_big_quiet_want; go_big_quiet_op; go_big_quiet_on)
          | (go_big_quiet_want
             go_big_quiet_op
             apply Exists.intro
             refine ⟨fun p => ?_, ?_⟩
             · (go_at_call 35; with_reducible exact Calls.regrown_of (sk.out _ _))
             go_big_quiet_on)
      refine wpQuiet_nil ?_
      rintro w2 ⟨p, rfl⟩
      have hb : Hid (Below w.heap.size w (grow (redrawn wr p.d) p.os)) := B3.out p.d p.os
      generalize grow (redrawn wr p.d) p.os = w2 at *
      clear rb rc ib ic sk B3 B
      go_wp2
      go_roundg (m - (i + 1))
      case measure => have := HK.out; omega
      case rel => exact ⟨i + 1, rfl, by omega, by go_num, hb.out⟩
/-- A receipt's parts. -/
structure RcB (W : World) (b : Nat) (ty : Int) (rt : Bool) (ro : List Value) (st us : Int) (bl : List Value) (L : Value) : Prop where
  ty : W.cell? ⟨b, 0, none⟩ = some (.int .i64 ty)
  rt : W.cell? ⟨b, 1, none⟩ = some (.bool rt)
  ro : W.rangeAt b 2 ro
  st : W.cell? ⟨b, 34, none⟩ = some (.int .u64 st)
  us : W.cell? ⟨b, 35, none⟩ = some (.int .u64 us)
  bl : W.rangeAt b 36 bl
  L : W.cell? ⟨b, 292, none⟩ = some L
theorem rc_parts {r : Rc} (h1 : r.root.length = 32) (h2 : r.bl.length = 256) {W : World} {b : Nat} (hr : W.rangeAt b 0 (rcC r)) : RcB W b r.ty r.rt (hC r.root) r.st r.us (hC r.bl) (.slice r.La r.Ll.length r.Lc) := by
  have c292 := rc_last h1 h2 hr
  have c35 := rc_used h1 hr
  unfold rcC at hr
  have q1 := range_app.1 hr
  have q2 := range_app.1 q1.2
  have q3 := range_app.1 q2.2
  rw [hC_len, h1] at q3
  have q4 := range_app.1 q3.2
  have q5 := range_app.1 q4.2
  have q6 := range_app.1 q5.2
  exact ⟨q1.1 0 _ rfl, q2.1 0 _ rfl, q3.1, q4.1 0 _ rfl, by simpa using c35, q6.1, by simpa using c292⟩
set_option maxRecDepth 100000 in
set_option maxHeartbeats 16000000 in
theorem sameR_yes {u r : Rc} (sc : u.ty = r.ty ∧ u.rt = r.rt ∧ u.root = r.root ∧ u.st = r.st ∧ u.us = r.us ∧ u.bl = r.bl) (hl : u.Ll.length = r.Ll.length) (hn : r.Ll.length < 1000000000) (hs : ∀ i, i < r.Ll.length → SmL (u.Ll.getD i zLg) (r.Ll.getD i zLg)) (hb : ∀ i, i < r.Ll.length → BdL (r.Ll.getD i zLg)) (w : World) (gu : LsG w u.La u.Lb u.Lo u.Lc u.Ll) (gr : RcG w r) :
    Calls Tryd.prog 10 #[.agg (rcC u).toArray, .agg (rcC r).toArray] w fun e w' => e = .returned (.bool true) ∧ Below w.heap.size w w' := by
  obtain ⟨s1, s2, s3, s4, s5, s6⟩ := sc
  have KL : Hid (∀ W, Below w.heap.size w W → Calls Tryd.prog 24 #[.slice u.La u.Ll.length u.Lc, .slice r.La r.Ll.length r.Lc] W fun e w' => e = .returned (.bool true) ∧ Below W.heap.size W w') := fun W B => sameLogs_yes hl hn hs hb W (gu.keep B) (gr.L.keep B)
  have P1 : Hid (∀ (W : World) b, W.rangeAt b 0 (rcC u) → RcB W b r.ty r.rt (hC r.root) r.st r.us (hC r.bl) (.slice u.La u.Ll.length u.Lc)) := fun W b h => by
    have := rc_parts (by rw [s3]; exact gr.root.1) (by rw [s6]; exact gr.bl.1) h
    rwa [s1, s2, s3, s4, s5, s6] at this
  have P2 : Hid (∀ (W : World) b, W.rangeAt b 0 (rcC r) → RcB W b r.ty r.rt (hC r.root) r.st r.us (hC r.bl) (.slice r.La r.Ll.length r.Lc)) := fun W b h => rc_parts gr.root.1 gr.bl.1 h
  have E1 : Hid (∀ w, (Op.equalIn 10000 24 (.agg (hC r.root).toArray) (.agg (hC r.root).toArray)).run Tryd.prog w = .ok true w) := eq_self fun w => eq_hs gr.root.1 gr.root.1 w
  have E2 : Hid (∀ w, (Op.equalIn 10000 27 (.agg (hC r.bl).toArray) (.agg (hC r.bl).toArray)).run Tryd.prog w = .ok true w) := eq_self fun w => eq_bl gr.bl.1 gr.bl.1 w
  have i1 : Hid ((Tryd.prog.info? 24).map (·.size) = some (hC r.root).length) := by show _ = _; rw [hC_len, gr.root.1]; exact size_hs
  have i2 : Hid ((Tryd.prog.info? 27).map (·.size) = some (hC r.bl).length) := by show _ = _; rw [hC_len, gr.bl.1]; exact size_bl
  obtain ⟨C1, hC1⟩ : ∃ C, C = rcC u := ⟨_, rfl⟩
  obtain ⟨C2, hC2⟩ : ∃ C, C = rcC r := ⟨_, rfl⟩
  rw [← hC1] at P1 ⊢
  rw [← hC2] at P2 ⊢
  generalize hC r.root = RO at *
  generalize hC r.bl = BO at *
  generalize r.ty = ty at *
  generalize r.rt = rt at *
  generalize r.st = st at *
  generalize r.us = us at *
  clear hC1 hC2 gu gr s1 s2 s3 s4 s5 s6 hn hl hs hb
  generalize Value.slice u.La u.Ll.length u.Lc = SU at *
  generalize Value.slice r.La r.Ll.length r.Lc = SR at *
  go_enter Tryd.func10, Tryd.ntmps10
  go_wp2_with first
    | (refine wpList_boxT rfl 30 _ rfl C1 rfl ?_; intro b1 W1 h1 B1 r1)
    | (refine wpList_boxT rfl 30 _ rfl C2 rfl ?_; intro b2 W2 h2 B2 r2; (have BB : Below w.heap.size w W2 := B1.trans (B2.mono B1.size)); (have p1 := P1.out W2 b1 (range_keep r1 B2)); (have p2 := P2.out W2 b2 r2); clear r1 r2 B1 B2 h1 h2)
    | (refine wpList_load_cellT (by rfl) 3 _ rfl b1 0 rfl (.int .i64 ty) _ p1.ty Tryd.underlying3 rfl ?_)
    | (refine wpList_load_cellT (by rfl) 3 _ rfl b2 0 rfl (.int .i64 ty) _ p2.ty Tryd.underlying3 rfl ?_; refine wpList_eqG (by rfl) .neq 3 _ _ _ rfl _ _ rfl rfl _ neI ?_; rw [decide_eq_true rfl])
    | (refine wpList_load_cellT (by rfl) 4 _ rfl b1 1 rfl (.bool rt) _ p1.rt Tryd.underlying4 rfl ?_)
    | (refine wpList_load_cellT (by rfl) 4 _ rfl b2 1 rfl (.bool rt) _ p2.rt Tryd.underlying4 rfl ?_; refine wpList_eqG (by rfl) .neq 4 _ _ _ rfl _ _ rfl rfl _ (neO Tryd.underlying4) ?_; rw [decide_eq_true rfl])
    | (refine wpList_load_midT (by rfl) 24 _ rfl b1 2 rfl RO _ p1.ro Tryd.underlying24 rfl i1.out ?_)
    | (refine wpList_load_midT (by rfl) 24 _ rfl b2 2 rfl RO _ p2.ro Tryd.underlying24 rfl i1.out ?_; refine wpList_eqG (by rfl) .neq 24 _ _ _ rfl _ _ rfl rfl _ (neR Tryd.eqGuardType24 (E1.out _)) ?_)
    | (refine wpList_load_cellT (by rfl) 25 _ rfl b1 34 rfl (.int .u64 st) _ p1.st Tryd.underlying25 rfl ?_)
    | (refine wpList_load_cellT (by rfl) 25 _ rfl b2 34 rfl (.int .u64 st) _ p2.st Tryd.underlying25 rfl ?_; refine wpList_eqG (by rfl) .neq 25 _ _ _ rfl _ _ rfl rfl _ neI ?_; rw [decide_eq_true rfl])
    | (refine wpList_load_cellT (by rfl) 25 _ rfl b1 35 rfl (.int .u64 us) _ p1.us Tryd.underlying25 rfl ?_)
    | (refine wpList_load_cellT (by rfl) 25 _ rfl b2 35 rfl (.int .u64 us) _ p2.us Tryd.underlying25 rfl ?_; refine wpList_eqG (by rfl) .neq 25 _ _ _ rfl _ _ rfl rfl _ neI ?_; rw [decide_eq_true rfl])
    | (refine wpList_load_midT (by rfl) 27 _ rfl b1 36 rfl BO _ p1.bl Tryd.underlying27 rfl i2.out ?_)
    | (refine wpList_load_midT (by rfl) 27 _ rfl b2 36 rfl BO _ p2.bl Tryd.underlying27 rfl i2.out ?_; refine wpList_eqG (by rfl) .eql 27 _ _ _ rfl _ _ rfl rfl _ (eqR Tryd.eqGuardType27 (E2.out _)) ?_)
    | (refine wpList_load_cellT (by rfl) 28 _ rfl b1 292 rfl SU _ p1.L Tryd.underlying28 rfl ?_)
    | (refine wpList_load_cellT (by rfl) 28 _ rfl b2 292 rfl SR _ p2.L Tryd.underlying28 rfl ?_)
    | (go_at_call 24; refine (KL.out _ BB).mono ?_; rintro e9 W9 ⟨rfl, B9⟩; (have BF : Hid (Below w.heap.size w W9) := BB.trans (B9.mono BB.size)); clear B9)
  simp [bodyPost, results, Tryd.results10, go_sem]
  exact BF.out
end Go.Proofs.YtmcpljgojdoniaaDoor.tq

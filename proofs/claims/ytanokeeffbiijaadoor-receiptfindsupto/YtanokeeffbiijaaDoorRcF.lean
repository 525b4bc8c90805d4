import Derived.Test.YtanokeeffbiijaaDoorRcE
/- waybilllaw17: sameLogs, sameReceipt. -/
namespace Go.Proofs.YtanokeeffbiijaaDoor.tq
open Go.RowKit Go.Sort
theorem KsG.cons {W : World} {a : Option Addr} {b o c : Nat} {ks : List (List Int)} (h : KsG W a b o c ks) (hi : 0 < ks.length) : a = some ⟨b, o, none⟩ := by
  rcases h.2.1 with e | e
  · rw [e] at hi; exact absurd hi (Nat.not_lt_zero _)
  · exact e
theorem LsG.cons {W : World} {a : Option Addr} {b o c : Nat} {ks : List Lg} (h : LsG W a b o c ks) (hi : 0 < ks.length) : a = some ⟨b, o, none⟩ := by
  rcases h.2.1 with e | e
  · rw [e] at hi; exact absurd hi (Nat.not_lt_zero _)
  · exact e
def BdL (x : Lg) : Prop := x.Tl.length < 1000000000 ∧ x.Dl.length < 1000000000
set_option maxRecDepth 100000 in
set_option maxHeartbeats 16000000 in
theorem sameLogs_yes {a a' : Option Addr} {b o c b' o' c' : Nat} {es xs : List Lg} (hl : es.length = xs.length) (hn : xs.length < 1000000000) (hs : ∀ i, i < xs.length → SmL (es.getD i zLg) (xs.getD i zLg)) (hb : ∀ i, i < xs.length → BdL (xs.getD i zLg)) (w : World) (ge : LsG w a b o c es) (gx : LsG w a' b' o' c' xs) :
    Calls Tryd.prog 20 #[.slice a es.length c, .slice a' xs.length c'] w fun e w' => e = .returned (.bool true) ∧ Below w.heap.size w w' := by
  obtain ⟨m, em⟩ : ∃ m, m = xs.length := ⟨_, rfl⟩
  have n1 : (m : Int) < 1000000000 := by omega
  have SK : Hid (∀ i, i < m → ∀ W, Below w.heap.size w W → Calls Tryd.prog 27 #[.agg (lgC (es.getD i zLg)).toArray, .agg (lgC (xs.getD i zLg)).toArray] W fun e w' => e = .returned (.bool true) ∧ Below W.heap.size W w') := fun i hi W B => sameLog_yes (hs i (by omega)) (hb i (by omega)) W ((ge.2.2 i (by omega)).1.keep B) ((gx.2.2 i (by omega)).1.keep B)
  have RR : Hid (∀ i, i < m → ∀ W, Below w.heap.size w W → W.rangeAt b (o + i * 22) (lgC (es.getD i zLg)) ∧ W.rangeAt b' (o' + i * 22) (lgC (xs.getD i zLg))) := fun i hi W B => ⟨range_keep (ge.2.2 i (by omega)).2 B, range_keep (gx.2.2 i (by omega)).2 B⟩
  have LL : Hid (∀ i, i < m → (Tryd.prog.info? 44).map (·.size) = some (lgC (es.getD i zLg)).length ∧ (Tryd.prog.info? 44).map (·.size) = some (lgC (xs.getD i zLg)).length) := fun i hi => ⟨by rw [lgC_len (ge.2.2 i (by omega)).1.adr.1]; exact size_lg, by rw [lgC_len (gx.2.2 i (by omega)).1.adr.1]; exact size_lg⟩
  have AA : Hid (0 < m → a = some ⟨b, o, none⟩ ∧ a' = some ⟨b', o', none⟩) := fun h => ⟨ge.cons (by omega), gx.cons (by omega)⟩
  rw [hl, ← em]
  clear hl hn hs hb ge gx em
  go_enter Tryd.func20, Tryd.ntmps20
  go_wp2_with fail
  go_loopg [5] m (fun k iv wr => ∃ i : Nat, k = m - i ∧ i ≤ m ∧ iv = .int .i64 i ∧ Below w.heap.size w wr)
  case atStart => exact ⟨0, rfl, Nat.zero_le _, rfl, Below.refl _ _⟩
  case round =>
    obtain ⟨i, hk, hi, rfl, B⟩ := hrel
    have HK : Hid (gk = m - i) := hk
    clear hk
    by_cases h8 : i = m
    · subst h8
      clear hi
      go_wp2
      simp [bodyPost, results, Tryd.results20, go_sem]
      exact B
    · have hlt : i < m := by omega
      have hlt' : (i : Int) < (m : Int) := by omega
      obtain ⟨rfl, rfl⟩ := AA.out (by omega)
      have B3 : Hid (∀ d os, Below w.heap.size w (grow (redrawn wr d) os)) := fun d os => B.trans ((below_regrown wr d os).mono B.size)
      have rb : ∀ w', (∃ q : Regrown, w' = grow (redrawn wr q.d) q.os) → w'.rangeAt b (o + i * 22) (lgC (es.getD i zLg)) := by rintro w' ⟨q, rfl⟩; exact (RR.out i hlt _ (B3.out q.d q.os)).1
      have rc : ∀ w', (∃ q : Regrown, w' = grow (redrawn wr q.d) q.os) → w'.rangeAt b' (o' + i * 22) (lgC (xs.getD i zLg)) := by rintro w' ⟨q, rfl⟩; exact (RR.out i hlt _ (B3.out q.d q.os)).2
      have ib := (LL.out i hlt).1
      have ic := (LL.out i hlt).2
      have sk : Hid (∀ d os, Calls Tryd.prog 27 #[.agg (lgC (es.getD i zLg)).toArray, .agg (lgC (xs.getD i zLg)).toArray] (grow (redrawn wr d) os) fun e w' => e = .returned (.bool true) ∧ Below (grow (redrawn wr d) os).heap.size (grow (redrawn wr d) os) w') := fun d os => SK.out i hlt _ (B3.out d os)
      clear SK RR LL AA hi
      generalize lgC (es.getD i zLg) = c1 at *
      generalize lgC (xs.getD i zLg) = c2 at *
      go_wp2_with fail
      refine wp_region_quiet_below (by kernel_rfl) (by kernel_rfl) ?_
      repeat
        first
          | go_big_quiet_skip
          | (go_big_quiet_want; refine quiet_load_midT 44 _ rfl b (o + i * 22) rfl c1 _ rb Tryd.underlying44 rfl ib ?_; simp only [Act.put, List.setIfInBounds_toArray, List.set_cons_succ, List.set_cons_zero]; go_big_quiet_on)
          | (go_big_quiet_want; refine quiet_load_midT 44 _ rfl b' (o' + i * 22) rfl c2 _ rc Tryd.underlying44 rfl ic ?_; simp only [Act.put, List.setIfInBounds_toArray, List.set_cons_succ, List.set_cons_zero]; go_big_quiet_on)
          | (go_big_quiet_want; go_big_quiet_op; go_big_quiet_on)
          | (go_big_quiet_want
             go_big_quiet_op
             apply Exists.intro
             refine ⟨fun p => ?_, ?_⟩
             · (go_at_call 27; with_reducible exact Calls.regrown_of (sk.out _ _))
             go_big_quiet_on)
      refine wpQuiet_nil ?_
      rintro w2 ⟨p, rfl⟩
      have hb : Hid (Below w.heap.size w (grow (redrawn wr p.d) p.os)) := B3.out p.d p.os
      generalize grow (redrawn wr p.d) p.os = w2 at *
      clear rb rc ib ic sk B3 B
      go_wp2
      go_roundg (m - (i + 1))
      case measure => have := HK.out; omega
      case rel => exact ⟨i + 1, rfl, by omega, by go_num, hb.out⟩
end Go.Proofs.YtanokeeffbiijaaDoor.tq

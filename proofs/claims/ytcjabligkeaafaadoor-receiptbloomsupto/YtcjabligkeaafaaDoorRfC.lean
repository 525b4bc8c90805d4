import Derived.Test.YtcjabligkeaafaaDoorRfB
import Derived.Test.YtcjabligkeaafaaDoorTsN
import Derived.WalkMore
/- receipt.Find. -/
namespace Go.Proofs.YtcjabligkeaafaaDoor.tq
open Go.RowKit Go.Sort
def topTk (L : List Kl) (Tl : List (List Int)) : Nat → Bool
  | 0 => true
  | i + 1 => topTk L Tl i && tak (L.getD i zKl).ks (Tl.getD i [])
theorem topTk_no {L : List Kl} {Tl : List (List Int)} {i : Nat} : ∀ n, i ≤ n → topTk L Tl i = false → topTk L Tl n = false
  | 0, h, e => by
    obtain rfl : i = 0 := Nat.le_zero.1 h
    exact e
  | n + 1, h, e => by
    by_cases k1 : i = n + 1
    · rw [← k1]; exact e
    · rw [topTk, topTk_no n (by omega) e]; rfl
/-- Does a filter take the log? -/
def logTk (As : List (List Int)) (L : List Kl) (l : Lg) : Bool := tak As l.adr && (decide (L.length ≤ l.Tl.length) && topTk L l.Tl L.length)
/-- The numbers of those of the first n logs that a filter takes. -/
def fnd (As : List (List Int)) (L : List Kl) (ls : List Lg) : Nat → List Int
  | 0 => []
  | n + 1 => fnd As L ls n ++ (if logTk As L (ls.getD n zLg) then [(n : Int)] else [])
theorem fnd_len {As : List (List Int)} {L : List Kl} {ls : List Lg} : ∀ n, (fnd As L ls n).length ≤ n
  | 0 => Nat.le_refl _
  | n + 1 => by
    have := fnd_len (As := As) (L := L) (ls := ls) n
    rw [fnd, List.length_append]
    split <;> simp <;> omega
theorem fnd_yes {As : List (List Int)} {L : List Kl} {ls : List Lg} {n : Nat} (h : logTk As L (ls.getD n zLg) = true) : fnd As L ls (n + 1) = fnd As L ls n ++ [(n : Int)] := by rw [fnd, if_pos h]
theorem fnd_no {As : List (List Int)} {L : List Kl} {ls : List Lg} {n : Nat} (h : logTk As L (ls.getD n zLg) = false) : fnd As L ls (n + 1) = fnd As L ls n := by rw [fnd, if_neg (by rw [h]; decide), List.append_nil]
def vN (L : List Int) : List Value := L.map (Value.int .i64)
theorem vN_app (L M : List Int) : vN (L ++ M) = vN L ++ vN M := List.map_append
/-- A list of ints of one's own. -/
def OwN (B : Nat) (W : World) (v : Value) (L : List Int) : Prop := W.ownsRow B 3 1 v L.length (vN L)
theorem OwN.keep {B : Nat} {W W' : World} {v : Value} {L : List Int} (h : OwN B W v L) (hb : Below W.heap.size W W') : OwN B W' v L := row_keep h hb
theorem rI_n : rowInfo Tryd.prog 3 1 8 = true := by kernel_rfl
theorem KssG.keep {W W' : World} {a : Option Addr} {b o c : Nat} {L : List Kl} (h : KssG W a b o c L) (B : Below W.heap.size W W') : KssG W' a b o c L := ⟨h.1, h.2.1, fun i hi => ⟨KsG.keep (h.2.2 i hi).1 B, range_keep (h.2.2 i hi).2 B⟩⟩
/-- Bounds of a filter and of logs. -/
def BdF (As : List (List Int)) (L : List Kl) : Prop := As.length ≤ 1000000000 ∧ L.length ≤ 1000000000 ∧ ∀ i, i < L.length → (L.getD i zKl).ks.length ≤ 1000000000
def BdLs (ls : List Lg) : Prop := ls.length < 1000000000 ∧ ∀ i, i < ls.length → BdL (ls.getD i zLg)
theorem kl_cell {W : World} {b o : Nat} {k : Kl} (h : W.rangeAt b o (klC k)) : W.cell? ⟨b, o, none⟩ = some (.slice k.a k.ks.length k.c) := by
  have := h 0 _ rfl
  simpa using this
set_option maxRecDepth 100000 in
set_option maxHeartbeats 16000000 in
theorem find_any {a aa ak : Option Addr} {b o c ba oa ca bk ok ck : Nat} {ls : List Lg} {As : List (List Int)} {L : List Kl} (hF : BdF As L) (hL : BdLs ls) (w : World) (hG : LsG w a b o c ls) (hA : AsG w aa ba oa ca As) (hK : KssG w ak bk ok ck L) :
    Calls Tryd.prog 7 #[.slice a ls.length c, .slice aa As.length ca, .slice ak L.length ck] w fun e w' => ∃ v, e = .returned v ∧ OwN w.heap.size w' v (fnd As L ls ls.length) ∧ Below w.heap.size w w' := by
  obtain ⟨n, hn⟩ : ∃ n, n = ls.length := ⟨_, rfl⟩
  obtain ⟨m, hm⟩ : ∃ m, m = L.length := ⟨_, rfl⟩
  have n1 : (n : Int) < 1000000000 := by have := hL.1; omega
  have m1 : (m : Int) ≤ 1000000000 := by have := hF.2.1; omega
  have HG : Hid ((∀ W, Below w.heap.size w W → LsG W a b o c ls ∧ KssG W ak bk ok ck L) ∧ ls.length = n ∧ L.length = m ∧ BdF As L ∧ BdLs ls) := ⟨fun W B => ⟨hG.keep B, hK.keep B⟩, hn.symm, hm.symm, hF, hL⟩
  have TA : Hid (∀ i, i < n → ∀ W, Below w.heap.size w W → Calls Tryd.prog 11 #[.slice aa As.length ca, .agg (hC (ls.getD i zLg).adr).toArray] W fun e w' => e = .returned (.bool (tak As (ls.getD i zLg).adr)) ∧ Below W.heap.size W w') := fun i hi W B => takes_A hF.1 (hG.2.2 i (by omega)).1.adr.1 W (hA.keep B)
  have TH : Hid (∀ i, i < n → ∀ j, j < m → j < (ls.getD i zLg).Tl.length → ∀ W, Below w.heap.size w W → Calls Tryd.prog 12 #[.slice (L.getD j zKl).a (L.getD j zKl).ks.length (L.getD j zKl).c, .agg (hC ((ls.getD i zLg).Tl.getD j [])).toArray] W fun e w' => e = .returned (.bool (tak (L.getD j zKl).ks ((ls.getD i zLg).Tl.getD j []))) ∧ Below W.heap.size W w') := fun i hi j hj h3 W B => takes_H (hF.2.2 j (by omega)) ((hG.2.2 i (by omega)).1.T.2.2 j h3).1.1 W (KsG.keep (hK.2.2 j (by omega)).1 B)
  have HN : Hid (∀ i, i < n → (lgC (ls.getD i zLg)).length = 22 ∧ (ls.getD i zLg).adr.length = 20) := fun i hi => ⟨lgC_len (hG.2.2 i (by omega)).1.adr.1, (hG.2.2 i (by omega)).1.adr.1⟩
  rw [← hn, ← hm]
  clear hF hL hG hA hK hn hm
  go_enter Tryd.func7, Tryd.ntmps7
  go_wp2_with fail
  go_step3
  go_wp2_with fail
  go_step3
  go_wp2_with fail
  go_loopg [7, 14] n (fun kk lv iv wr => ∃ i : Nat, kk = n - i ∧ i ≤ n ∧ iv = .int .i64 (i : Int) ∧ OwN w.heap.size wr lv (fnd As L ls i) ∧ Below w.heap.size w wr)
  case atStart => exact ⟨0, rfl, Nat.zero_le _, rfl, World.ownsRow_nil _ _ _ _, Below.refl _ _⟩
  case round =>
    obtain ⟨i, hk, hi, rfl, hown, B⟩ := hrel
    have HK : Hid (gk = n - i) := hk
    have HO : Hid (OwN w.heap.size wr u7 (fnd As L ls i)) := hown
    have BB : Hid (Below w.heap.size w wr) := B
    clear hk hown B
    by_cases h8 : i = n
    · subst h8
      go_wp2
      try rw [Exit.noGoto_ret]
      go_ret
      simp (config := { zetaDelta := true }) [go_sem]
      exact ⟨HO.out, BB.out⟩
    · have hlt : i < n := by omega
      have hlt' : (i : Int) < (n : Int) := by omega
      obtain rfl : a = some ⟨b, o, none⟩ := (HG.out.1 _ BB.out).1.cons (by have := HG.out.2.1; omega)
      have GI := ((HG.out.1 _ BB.out).1.2.2 i (by have := HG.out.2.1; omega))
      have IC : Hid ((lgC (ls.getD i zLg)).length = 22 ∧ (∀ v ∈ lgC (ls.getD i zLg), v.oneCell' = true) ∧ ∀ (W : World) (g : Nat), W.rangeAt g 0 (lgC (ls.getD i zLg)) → W.rangeAt g 0 (hC (ls.getD i zLg).adr) ∧ W.cell? ⟨g, 20, none⟩ = some (.slice (ls.getD i zLg).Ta (ls.getD i zLg).Tl.length (ls.getD i zLg).Tc)) := ⟨(HN.out i hlt).1, lgC_one _, fun W g h => by
        have := lg_parts (HN.out i hlt).2 h
        simpa using ⟨this.1, this.2.1⟩⟩
      have ia : (Tryd.prog.info? 24).map (·.size) = some (hC (ls.getD i zLg).adr).length := by rw [hC_len, (HN.out i hlt).2]; exact size_ad
      have R1 : Hid (wr.rangeAt b (o + i * 22) (lgC (ls.getD i zLg))) := GI.2
      have KT : Hid (∀ W, Below wr.heap.size wr W → KsG W (ls.getD i zLg).Ta (ls.getD i zLg).Tb (ls.getD i zLg).To (ls.getD i zLg).Tc (ls.getD i zLg).Tl) := fun W b => GI.1.T.keep b
      have TAi := TA.out i hlt
      have THi := TH.out i hlt
      have LK : Hid (logTk As L (ls.getD i zLg) = (tak As (ls.getD i zLg).adr && (decide (m ≤ (ls.getD i zLg).Tl.length) && topTk L (ls.getD i zLg).Tl m))) := by show _ = _; rw [← HG.out.2.2.1]; rfl
      have FY : Hid (logTk As L (ls.getD i zLg) = true → fnd As L ls (i + 1) = fnd As L ls i ++ [(i : Int)]) := fun h => fnd_yes h
      have FN : Hid (logTk As L (ls.getD i zLg) = false → fnd As L ls (i + 1) = fnd As L ls i) := fun h => fnd_no h
      have tl9 : ((ls.getD i zLg).Tl.length : Int) < 1000000000 := by have := (HG.out.2.2.2.2.2 i (by have := HG.out.2.1; omega)).1; omega
      clear GI TA TH hi h8
      generalize lgC (ls.getD i zLg) = cs at *
      generalize logTk As L (ls.getD i zLg) = lk at *
      generalize (ls.getD i zLg).Ta = Ta at *
      generalize (ls.getD i zLg).Tb = Tb at *
      generalize (ls.getD i zLg).To = To at *
      generalize (ls.getD i zLg).Tc = Tc at *
      generalize (ls.getD i zLg).Tl = Tl at *
      have TLN : Hid (∃ p, p = Tl.length) := ⟨_, rfl⟩
      obtain ⟨p, hp⟩ := TLN.out
      have HP : Hid (Tl.length = p) := hp.symm
      rw [← hp] at IC LK tl9
      clear hp TLN
      generalize hC (ls.getD i zLg).adr = cA at *
      generalize tak As (ls.getD i zLg).adr = t1 at *
      have TA : Hid (∀ W, Below w.heap.size w W → Calls Tryd.prog 11 #[.slice aa As.length ca, .agg cA.toArray] W fun e w' => e = .returned (.bool t1) ∧ Below W.heap.size W w') := TAi
      have TH : Hid (∀ j, j < m → j < Tl.length → ∀ W, Below w.heap.size w W → Calls Tryd.prog 12 #[.slice (L.getD j zKl).a (L.getD j zKl).ks.length (L.getD j zKl).c, .agg (hC (Tl.getD j [])).toArray] W fun e w' => e = .returned (.bool (tak (L.getD j zKl).ks (Tl.getD j []))) ∧ Below W.heap.size W w') := THi
      clear TAi THi HN
      have SE : Hid (∀ (z : List Value) (t : TypeId), z.length = cs.length → (wr.alloc (.cells z.toArray t)).there wr.heap.size 0 cs.length ∧ ((wr.alloc (.cells z.toArray t)).setCells wr.heap.size 0 cs).rangeAt wr.heap.size 0 cs ∧ Below wr.heap.size wr ((wr.alloc (.cells z.toArray t)).setCells wr.heap.size 0 cs)) := fun z t hz => by
        have ht := there_new (W := wr) (t := t) (cs := z.toArray) (n := cs.length) rfl (by rw [List.size_toArray, hz])
        exact ⟨ht, World.rangeAt_setCells_same _ _ _ _ ht, (laid_in ((Below.refl _ _).alloc (Nat.le_refl _) _) (Nat.le_refl _) ht).1⟩
      cases t1 with
      | false =>
        have NX : Hid (fnd As L ls i = fnd As L ls (i + 1)) := (FN.out (by rw [LK.out]; rfl)).symm
        go_wp2_with (first
          | (refine wpList_load_mid rfl _ _ rfl b (o + i * 22) rfl cs _ R1.out Tryd.underlying33 rfl (by rw [IC.out.1]; exact size_lg) ?_)
          | ((refine wpList_store_mid rfl _ _ _ rfl wr.heap.size 0 cs.toArray rfl rfl (by show World.there _ _ _ cs.toArray.size; rw [List.size_toArray]; exact (SE.out _ _ (by rw [IC.out.1]; rfl)).1) (by rw [List.size_toArray, IC.out.1]; exact size_lg) (all_oneCell_toArray IC.out.2.1) ?_); (refine wpList_worldA (fun W => Below w.heap.size w W ∧ W.rangeAt wr.heap.size 0 cs ∧ Below wr.heap.size wr W) ⟨BB.out.trans ((SE.out _ _ (by rw [IC.out.1]; rfl)).2.2.mono BB.out.size), (SE.out _ _ (by rw [IC.out.1]; rfl)).2.1, (SE.out _ _ (by rw [IC.out.1]; rfl)).2.2⟩ ?_); rintro W2 ⟨B2, q2, b2⟩; obtain ⟨qa, c2⟩ := IC.out.2.2 W2 _ q2)
          | (refine wpList_load_mid rfl _ _ rfl wr.heap.size 0 rfl cA _ qa Tryd.underlying24 rfl ia ?_)
          | ((with_reducible refine (TA.out W2 B2).mono ?_); rintro e w3 ⟨rfl, hb⟩; replace B2 := B2.trans (hb.mono B2.size); replace q2 := range_keep q2 hb; replace b2 := b2.trans (hb.mono b2.size); clear hb c2 qa; obtain ⟨qa, c2⟩ := IC.out.2.2 w3 _ q2)
          | fail)
        go_roundg (n - (i + 1))
        case measure => have := HK.out; omega
        case rel => exact ⟨i + 1, rfl, by omega, by go_num, NX.out ▸ HO.out.keep b2, B2⟩
      | true =>
        by_cases hl9 : m ≤ p
        case neg =>
          have NX : Hid (fnd As L ls i = fnd As L ls (i + 1)) := (FN.out (by rw [LK.out, decide_eq_false hl9]; rfl)).symm
          have cl : ((p : Int) < (m : Int)) := by omega
          clear hl9
          go_wp2_with (first
            | (refine wpList_load_mid rfl _ _ rfl b (o + i * 22) rfl cs _ R1.out Tryd.underlying33 rfl (by rw [IC.out.1]; exact size_lg) ?_)
            | ((refine wpList_store_mid rfl _ _ _ rfl wr.heap.size 0 cs.toArray rfl rfl (by show World.there _ _ _ cs.toArray.size; rw [List.size_toArray]; exact (SE.out _ _ (by rw [IC.out.1]; rfl)).1) (by rw [List.size_toArray, IC.out.1]; exact size_lg) (all_oneCell_toArray IC.out.2.1) ?_); (refine wpList_worldA (fun W => Below w.heap.size w W ∧ W.rangeAt wr.heap.size 0 cs ∧ Below wr.heap.size wr W) ⟨BB.out.trans ((SE.out _ _ (by rw [IC.out.1]; rfl)).2.2.mono BB.out.size), (SE.out _ _ (by rw [IC.out.1]; rfl)).2.1, (SE.out _ _ (by rw [IC.out.1]; rfl)).2.2⟩ ?_); rintro W2 ⟨B2, q2, b2⟩; obtain ⟨qa, c2⟩ := IC.out.2.2 W2 _ q2)
            | (refine wpList_load_mid rfl _ _ rfl wr.heap.size 0 rfl cA _ qa Tryd.underlying24 rfl ia ?_)
            | ((with_reducible refine (TA.out W2 B2).mono ?_); rintro e w3 ⟨rfl, hb⟩; replace B2 := B2.trans (hb.mono B2.size); replace q2 := range_keep q2 hb; replace b2 := b2.trans (hb.mono b2.size); clear hb c2 qa; obtain ⟨qa, c2⟩ := IC.out.2.2 w3 _ q2)
            | fail)
          go_roundg (n - (i + 1))
          case measure => have := HK.out; omega
          case rel => exact ⟨i + 1, rfl, by omega, by go_num, NX.out ▸ HO.out.keep b2, B2⟩
        have HL9 : Hid (m ≤ p) := hl9
        have cl : ((p : Int) < (m : Int)) = False := by simp; omega
        clear hl9
        go_wp2_with (first
          | (refine wpList_load_mid rfl _ _ rfl b (o + i * 22) rfl cs _ R1.out Tryd.underlying33 rfl (by rw [IC.out.1]; exact size_lg) ?_)
          | ((refine wpList_store_mid rfl _ _ _ rfl wr.heap.size 0 cs.toArray rfl rfl (by show World.there _ _ _ cs.toArray.size; rw [List.size_toArray]; exact (SE.out _ _ (by rw [IC.out.1]; rfl)).1) (by rw [List.size_toArray, IC.out.1]; exact size_lg) (all_oneCell_toArray IC.out.2.1) ?_); (refine wpList_worldA (fun W => Below w.heap.size w W ∧ W.rangeAt wr.heap.size 0 cs ∧ Below wr.heap.size wr W) ⟨BB.out.trans ((SE.out _ _ (by rw [IC.out.1]; rfl)).2.2.mono BB.out.size), (SE.out _ _ (by rw [IC.out.1]; rfl)).2.1, (SE.out _ _ (by rw [IC.out.1]; rfl)).2.2⟩ ?_); rintro W2 ⟨B2, q2, b2⟩; obtain ⟨qa, c2⟩ := IC.out.2.2 W2 _ q2)
          | (refine wpList_load_mid rfl _ _ rfl wr.heap.size 0 rfl cA _ qa Tryd.underlying24 rfl ia ?_)
          | ((with_reducible refine (TA.out W2 B2).mono ?_); rintro e w3 ⟨rfl, hb⟩; replace B2 := B2.trans (hb.mono B2.size); replace q2 := range_keep q2 hb; replace b2 := b2.trans (hb.mono b2.size); clear hb c2 qa; obtain ⟨qa, c2⟩ := IC.out.2.2 w3 _ q2)
          | fail)
        clear cl
        obtain ⟨wo, rfl⟩ : ∃ wo : World, wo = wr := ⟨wr, rfl⟩
        go_loopg [34] m (fun kk jv W4 => ∃ j : Nat, kk = m - j ∧ j ≤ m ∧ jv = .int .i64 (j : Int) ∧ topTk L Tl j = true ∧ Below w.heap.size w W4 ∧ W4.rangeAt wo.heap.size 0 cs ∧ Below wo.heap.size wo W4)
        case atStart => exact ⟨0, rfl, Nat.zero_le _, rfl, rfl, B2, q2, b2⟩
        case round =>
          clear B2 q2 b2 qa c2 ia TA
          obtain ⟨j, hkj, hj, rfl, ht, B4, q4, b4⟩ := hrel
          have HJ : Hid (gk = m - j ∧ topTk L Tl j = true) := ⟨hkj, ht⟩
          clear hkj ht
          have c4 := (IC.out.2.2 wr _ q4).2
          by_cases h9 : j = m
          · subst h9
            have NX : Hid (fnd As L ls (i + 1) = fnd As L ls i ++ [(i : Int)]) := FY.out (by rw [LK.out, decide_eq_true HL9.out, HJ.out.2]; rfl)
            have B4' : Hid (Below w.heap.size w wr ∧ Below wo.heap.size wo wr) := ⟨B4, b4⟩
            clear c4 q4 HL9 LK FY FN TH KT IC B4 b4 R1 SE
            have FL : Hid ((fnd As L ls i).length ≤ i) := fnd_len _
            go_wp2_with (at_builtin; (refine wpList_append_rw (B := w.heap.size) (n := (fnd As L ls i).length) (v := u7) (xs := vN (fnd As L ls i)) (g := wr.heap.size) (p := 0) (m := 1) (news := [.int .i64 (i : Int)]) 1 8 36 3 Tryd.underlying36 rI_n (by decide) rfl _ _ rfl rfl rfl ((HO.out.keep B4'.out.2).alloc (.cells #[.int .i64 (i : Int)] 3)) rfl (.inr rfl) (fun e => by cases e) new_range (fun x hx => by simp at hx; subst hx; rfl) (by have := FL.out; unfold maxLen; omega) (by have := FL.out; omega) (by have := B4'.out.1.size; rw [World.size_alloc]; omega) ?_); (intro v' w3 o3 g3 p3); (have B3 : Below w.heap.size w w3 := (B4'.out.1.alloc B4'.out.1.size _).grown g3 (by have := B4'.out.1.size; rw [World.size_alloc]; omega) (fun k hk => ((HO.out.keep B4'.out.2).lt k hk).1)); (have HO3 : Hid (OwN w.heap.size w3 v' (fnd As L ls i ++ [(i : Int)]) ∧ Below w.heap.size w w3) := ⟨by unfold OwN; rw [List.length_append, vN_app]; exact o3, B3⟩); clear o3 g3 p3 B3)
            go_roundg (n - (i + 1))
            case measure => have := HK.out; omega
            case rel => exact ⟨i + 1, rfl, by omega, by go_num, NX.out ▸ HO3.out.1, HO3.out.2⟩
          · have jlt : j < m := by omega
            have jlt' : (j : Int) < (m : Int) := by omega
            have jp : j < p := by have := HL9.out; omega
            have jp' : (j : Int) < (p : Int) := by omega
            obtain ⟨G4, K4⟩ := HG.out.1 wr B4
            obtain rfl : ak = some ⟨bk, ok, none⟩ := by
              rcases K4.2.1 with h | h
              · have := HG.out.2.2.1; rw [h] at this; simp at this; omega
              · exact h
            have T4 := KT.out wr b4
            obtain rfl : Ta = some ⟨Tb, To, none⟩ := T4.cons (by have := HP.out; omega)
            have ck4 := kl_cell ((K4.2.2 j (by have := HG.out.2.2.1; omega)).2)
            rw [Nat.mul_one] at ck4
            have T5 : Hid (wr.rangeAt Tb (To + j * 32) (hC (Tl.getD j [])) ∧ (hC (Tl.getD j [])).length = 32) := ⟨(T4.2.2 j (by have := HP.out; omega)).2, T4.len j (by have := HP.out; omega)⟩
            have CH : Hid (∀ W, Below w.heap.size w W → Calls Tryd.prog 12 #[.slice (L.getD j zKl).a (L.getD j zKl).ks.length (L.getD j zKl).c, .agg (hC (Tl.getD j [])).toArray] W fun e w' => e = .returned (.bool (tak (L.getD j zKl).ks (Tl.getD j []))) ∧ Below W.heap.size W w') := TH.out j jlt (by have := HP.out; omega)
            have NT : Hid (topTk L Tl (j + 1) = tak (L.getD j zKl).ks (Tl.getD j [])) := by show _ = _; rw [topTk, HJ.out.2]; rfl
            have B4' : Hid (Below w.heap.size w wr ∧ wr.rangeAt wo.heap.size 0 cs ∧ Below wo.heap.size wo wr) := ⟨B4, q4, b4⟩
            clear G4 K4 T4 TH KT h9 hj SE R1 q4 b4
            generalize hC (Tl.getD j []) = th at *
            generalize tak (L.getD j zKl).ks (Tl.getD j []) = t2 at *
            generalize (L.getD j zKl).a = ka at *
            generalize (L.getD j zKl).ks.length = kn at *
            generalize (L.getD j zKl).c = kc at *
            cases t2 with
            | false =>
              have NX : Hid (fnd As L ls i = fnd As L ls (i + 1)) := (FN.out (by rw [LK.out, topTk_no m (by omega) NT.out]; simp)).symm
              go_wp2_with (first
                | (refine wpList_load_mid rfl _ _ rfl Tb (To + j * 32) rfl th _ T5.out.1 Tryd.underlying26 rfl (by rw [T5.out.2]; exact size_hs) ?_)
                | ((with_reducible refine (CH.out wr B4'.out.1).mono ?_); rintro e w3 ⟨rfl, hb⟩; have B6 : Hid (Below w.heap.size w w3 ∧ Below wo.heap.size wo w3) := ⟨B4'.out.1.trans (hb.mono B4'.out.1.size), B4'.out.2.2.trans (hb.mono B4'.out.2.2.size)⟩; clear hb))
              go_roundg (n - (i + 1))
              case measure => have := HK.out; omega
              case rel => exact ⟨i + 1, rfl, by omega, by go_num, NX.out ▸ HO.out.keep B6.out.2, B6.out.1⟩
            | true =>
              go_wp2_with (first
                | (refine wpList_load_mid rfl _ _ rfl Tb (To + j * 32) rfl th _ T5.out.1 Tryd.underlying26 rfl (by rw [T5.out.2]; exact size_hs) ?_)
                | ((with_reducible refine (CH.out wr B4'.out.1).mono ?_); rintro e w3 ⟨rfl, hb⟩; have B6 : Hid (Below w.heap.size w w3 ∧ w3.rangeAt wo.heap.size 0 cs ∧ Below wo.heap.size wo w3) := ⟨B4'.out.1.trans (hb.mono B4'.out.1.size), range_keep B4'.out.2.1 hb, B4'.out.2.2.trans (hb.mono B4'.out.2.2.size)⟩; clear hb))
              go_roundg (m - (j + 1))
              case measure => have := HJ.out.1; omega
              case rel => exact ⟨j + 1, rfl, by omega, by go_num, NT.out, B6.out.1, B6.out.2.1, B6.out.2.2⟩
end Go.Proofs.YtcjabligkeaafaaDoor.tq

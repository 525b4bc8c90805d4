import Derived.Test.YtongiohdomacoaaAcC
/- Layer 14: slices.Contains, the program's Warm. -/
namespace Go.Proofs.Ytongiohdomacoaa
open Go.RowKit Go.Sort

set_option maxRecDepth 100000 in
theorem contains_any {K : List (List Int)} {k : List Int} {v : Value} (hl : K.length ≤ 5000000000000) (hw : W32 K) (hk : k.length = 32) (w : World) (h : Ky w v K) :
    Calls Try.prog 10 #[v, .agg (cB k).toArray] w fun e w' => e = .returned (.bool (kHas K k K.length)) ∧ Below w.heap.size w w' := by
  have IX : Hid (∀ W, Below w.heap.size w W → Calls Try.prog 12 #[v, .agg (cB k).toArray] W fun e w' => (∃ z : Int, e = .returned (.int .i64 z) ∧ decide (z ≥ 0) = kHas K k K.length) ∧ Below W.heap.size W w') := fun W B => index_any hl hw hk W (h.keep B)
  have ik : (Try.prog.info? 26).map (·.size) = some (cB k).length := by rw [cB_len, hk]; exact size_haE
  clear hl hw h hk
  generalize cB k = ck at *
  go_enter Try.func10, Try.ntmps10
  have bw : ∀ o, Below w.heap.size w (w.alloc o) := fun o => (Below.refl _ _).alloc (Nat.le_refl _) _
  have rw0 : ∀ t, (w.alloc (.cells ck.toArray t)).rangeAt w.heap.size 0 ck := fun t => new_range
  go_wp2_with (first | (refine wpList_load_mid rfl _ _ rfl w.heap.size 0 rfl ck _ (rw0 _) Try.underlying26 rfl ik ?_) | ((with_reducible refine (IX.out _ (bw _)).mono ?_); rintro e w1 ⟨⟨z, rfl, hz⟩, hb⟩))
  simp [bodyPost, results, Try.results10, go_sem]
  first | exact ⟨hz, (bw _).trans (hb.mono (by simp))⟩ | exact (bw _).trans (hb.mono (by simp))
/-- Is the address named by the first of these; is the key named with it? -/
def hA (L : List EE) (a : List Int) : Nat → Bool
  | 0 => false
  | i + 1 => hA L a i || decide ((L.getD i zE).A = a)
def hK (L : List EE) (a k : List Int) : Nat → Bool
  | 0 => false
  | i + 1 => hK L a k i || (decide ((L.getD i zE).A = a) && kHas (L.getD i zE).K k (L.getD i zE).K.length)
theorem hA_mono {L : List EE} {a : List Int} {i : Nat} : ∀ n, i ≤ n → hA L a i = true → hA L a n = true
  | 0, h, e => by
    obtain rfl : i = 0 := Nat.le_zero.1 h
    exact e
  | n + 1, h, e => by
    by_cases k1 : i = n + 1
    · rw [← k1]; exact e
    · rw [hA, hA_mono n (by omega) e]; rfl
theorem hK_mono {L : List EE} {a k : List Int} {i : Nat} : ∀ n, i ≤ n → hK L a k i = true → hK L a k n = true
  | 0, h, e => by
    obtain rfl : i = 0 := Nat.le_zero.1 h
    exact e
  | n + 1, h, e => by
    by_cases k1 : i = n + 1
    · rw [← k1]; exact e
    · rw [hK, hK_mono n (by omega) e]; rfl
def KyL (L : List EE) : Prop := ∀ i, i < L.length → (L.getD i zE).K.length ≤ 5000000000000
set_option maxRecDepth 100000 in
set_option maxHeartbeats 8000000 in
theorem warm_any {a : Option Addr} {b o c : Nat} {L : List EE} {V : Nat → Value} {x k : List Int} (hl : L.length ≤ 3000000000000) (hw : WfE L) (hy : KyL L) (ha : AzE a b o L) (hx : x.length = 20) (hk : k.length = 32) (w : World) (hE : Es w b o L V) :
    Calls Try.prog 6 #[.slice a L.length c, .agg (cB x).toArray, .agg (cB k).toArray] w fun e w' => e = .returned (.tuple #[.bool (hA L x L.length), .bool (hK L x k L.length)]) ∧ Below w.heap.size w w' := by
  have HA : Hid (AzE a b o L ∧ WfE L ∧ L.length ≤ 3000000000000) := ⟨ha, hw, hl⟩
  have HI : Hid (∀ W, Below w.heap.size w W → Es W b o L V) := fun W B => hE.keep B
  have n1 : (L.length : Int) ≤ 3000000000000 := by omega
  have CT : Hid (∀ i, i < L.length → ∀ W v, Ky W v (L.getD i zE).K → Calls Try.prog 10 #[v, .agg (cB k).toArray] W fun e w' => e = .returned (.bool (kHas (L.getD i zE).K k (L.getD i zE).K.length)) ∧ Below W.heap.size W w') := fun i hi W v h => contains_any (hy i hi) (hw i hi).2 hk W h
  have EQ : Hid (∀ i, i < L.length → ∀ w, (Op.equalIn 10000 24 (.agg (cB (L.getD i zE).A).toArray) (.agg (cB x).toArray)).run Try.prog w = .ok (decide ((L.getD i zE).A = x)) w) := fun i hi w => eq_adE (hw i hi).1 hx w
  have ik : (Try.prog.info? 26).map (·.size) = some (cB k).length := by rw [cB_len, hk]; exact size_haE
  have ix : (Try.prog.info? 24).map (·.size) = some (cB x).length := by rw [cB_len, hx]; exact size_adE
  have IX : Hid (((Try.prog.info? 26).map (·.size) = some (cB k).length) ∧ (Try.prog.info? 24).map (·.size) = some (cB x).length) := ⟨ik, ix⟩
  have MA : Hid (∀ i, i ≤ L.length → hA L x i = true → hA L x L.length = true) := fun i h1 h2 => hA_mono _ h1 h2
  have MK : Hid (∀ i, i ≤ L.length → hK L x k i = true → hK L x k L.length = true) := fun i h1 h2 => hK_mono _ h1 h2
  have SA : Hid (∀ i, hA L x (i + 1) = (hA L x i || decide ((L.getD i zE).A = x))) := fun i => rfl
  have SK : Hid (∀ i, hK L x k (i + 1) = (hK L x k i || (decide ((L.getD i zE).A = x) && kHas (L.getD i zE).K k (L.getD i zE).K.length))) := fun i => rfl
  have S0 : Hid (hA L x 0 = false ∧ hK L x k 0 = false) := ⟨rfl, rfl⟩
  clear hl hw ha hE hy hx hk ik ix
  generalize cB x = cx at *
  generalize cB k = ck at *
  go_enter Try.func6, Try.ntmps6
  go_wp2_with fail
  refine wp_world (fun W => Below w.heap.size w W ∧ W.rangeAt w.heap.size 0 cx ∧ W.rangeAt (w.heap.size + 1) 0 ck) ⟨by repeat (first | with_reducible exact Below.refl _ _ | with_reducible refine Below.alloc ?_ (by first | omega | (simp; done) | (simp; omega)) _), rng_keep new_range ((Below.refl _ _).alloc (Nat.le_refl _) _), by have h := new_range (W := w.alloc (.cells cx.toArray 24)) (cs := ck) (t := 26); rw [World.size_alloc] at h; exact h⟩ ?_
  rintro W ⟨B, r0, r9⟩
  go_loopg [6, 12] L.length (fun kk av iv wr => ∃ i : Nat, kk = L.length - i ∧ i ≤ L.length ∧ av = .bool (hA L x i) ∧ iv = .int .i64 (i : Int) ∧ hK L x k i = false ∧ Below w.heap.size w wr ∧ wr.rangeAt w.heap.size 0 cx ∧ wr.rangeAt (w.heap.size + 1) 0 ck)
  case atStart => exact ⟨0, rfl, Nat.zero_le _, rfl, rfl, rfl, B, r0, r9⟩
  case round =>
    clear B r0 r9 W
    obtain ⟨i, hk, hi, rfl, rfl, hf, B, r0, r9⟩ := hrel
    have HKK : Hid (gk = L.length - i ∧ i ≤ L.length ∧ hK L x k i = false) := ⟨hk, hi, hf⟩
    clear hk hf
    by_cases h8 : i = L.length
    · subst h8
      go_wp2
      simp [bodyPost, results, Try.results6, go_sem]
      exact ⟨HKK.out.2.2, B⟩
    · have hlt : i < L.length := by omega
      have hlt' : (i : Int) < (L.length : Int) := by omega
      obtain rfl := HA.out.1.cons (by omega)
      obtain ⟨r1, hky⟩ := HI.out wr B i hlt
      have NA : Hid (hA L x (i + 1) = (hA L x i || decide ((L.getD i zE).A = x))) := SA.out i
      have NK : Hid (hK L x k (i + 1) = (decide ((L.getD i zE).A = x) && kHas (L.getD i zE).K k (L.getD i zE).K.length)) := by show _ = _; rw [SK.out i, HKK.out.2.2]; rfl
      have eq := EQ.out i hlt
      have ct := CT.out i hlt
      have KY : Hid (Ky wr (V i) (L.getD i zE).K) := hky
      have hAl := (HA.out.2.1 i hlt).1
      obtain ⟨ak, gk', pk, ck9, ev, h2, h3, h4⟩ := hky
      have KY2 : Hid (∀ W, Below wr.heap.size wr W → Ky W (.slice ak (L.getD i zE).K.length ck9) (L.getD i zE).K) := fun W b => by have h := KY.out.keep b; rw [ev] at h; exact h
      rw [ev] at r1
      clear h2 h3 h4 ev hi h8 KY
      have e20 : (cB (L.getD i zE).A ++ [Value.slice ak (L.getD i zE).K.length ck9])[20]? = some (Value.slice ak (L.getD i zE).K.length ck9) := by
        rw [List.getElem?_append_right (by rw [cB_len, hAl]; omega), cB_len, hAl]; rfl
      have el : (cB (L.getD i zE).A ++ [Value.slice ak (L.getD i zE).K.length ck9]).length = 21 := by rw [List.length_append, cB_len, hAl]; rfl
      have eo : ∀ v ∈ cB (L.getD i zE).A ++ [Value.slice ak (L.getD i zE).K.length ck9], v.oneCell' = true := fun v hv => by
        rw [List.mem_append] at hv
        rcases hv with hv | hv
        · exact cB_one _ v hv
        · rw [List.mem_singleton] at hv; subst hv; rfl
      have ea : ∀ W : World, W.rangeAt wr.heap.size 0 (cB (L.getD i zE).A ++ [Value.slice ak (L.getD i zE).K.length ck9]) → W.rangeAt wr.heap.size 0 (cB (L.getD i zE).A) := fun W h j v hv => h j v (by
        rw [List.getElem?_append_left (List.getElem?_eq_some_iff.1 hv).1]; exact hv)
      have ia : (Try.prog.info? 24).map (·.size) = some (cB (L.getD i zE).A).length := by rw [cB_len, hAl]; exact size_adE
      have CE : Hid (∃ cs, cs = cB (L.getD i zE).A ++ [Value.slice ak (L.getD i zE).K.length ck9]) := ⟨_, rfl⟩
      generalize cB (L.getD i zE).A ++ [Value.slice ak (L.getD i zE).K.length ck9] = cs at *
      generalize cB (L.getD i zE).A = ca at *
      generalize decide ((L.getD i zE).A = x) = dd at *
      generalize kHas (L.getD i zE).K k (L.getD i zE).K.length = kk at *
      generalize (L.getD i zE).K = KK at *
      generalize KK.length = n at *
      generalize hA L x i = ha at *
      have R1 : Hid (wr.rangeAt b (o + i * 21) cs ∧ cs[20]? = some (Value.slice ak n ck9) ∧ cs.length = 21 ∧ (∀ v ∈ cs, v.oneCell' = true) ∧ ∀ W : World, W.rangeAt wr.heap.size 0 cs → W.rangeAt wr.heap.size 0 ca) := ⟨r1, e20, el, eo, ea⟩
      have SE : Hid (∀ (z : List Value) (t : TypeId), z.length = cs.length → (wr.alloc (.cells z.toArray t)).there wr.heap.size 0 cs.length ∧ ((wr.alloc (.cells z.toArray t)).setCells wr.heap.size 0 cs).rangeAt wr.heap.size 0 cs ∧ Below wr.heap.size wr ((wr.alloc (.cells z.toArray t)).setCells wr.heap.size 0 cs)) := fun z t hz => stored_en hz (Below.refl _ _)
      clear r1 e20 el eo ea hAl CE EQ CT
      cases dd with
      | false =>
        go_wp2_with (first
          | (refine wpList_load_mid rfl _ _ rfl b (o + i * 21) rfl cs _ R1.out.1 Try.underlying36 rfl (by rw [R1.out.2.2.1]; exact size_en) ?_)
          | ((refine wpList_store_mid rfl _ _ _ rfl wr.heap.size 0 cs.toArray rfl rfl (by show World.there _ _ _ cs.toArray.size; rw [List.size_toArray]; exact (SE.out _ _ (by rw [R1.out.2.2.1]; rfl)).1) (by rw [List.size_toArray, R1.out.2.2.1]; exact size_en) (all_oneCell_toArray R1.out.2.2.2.1) ?_); (refine wpList_worldE (fun W => Below w.heap.size w W ∧ W.rangeAt wr.heap.size 0 cs ∧ W.rangeAt w.heap.size 0 cx ∧ W.rangeAt (w.heap.size + 1) 0 ck ∧ Below wr.heap.size wr W) ⟨B.trans ((SE.out _ _ (by rw [R1.out.2.2.1]; rfl)).2.2.mono B.size), (SE.out _ _ (by rw [R1.out.2.2.1]; rfl)).2.1, rng_keep r0 (SE.out _ _ (by rw [R1.out.2.2.1]; rfl)).2.2, rng_keep r9 (SE.out _ _ (by rw [R1.out.2.2.1]; rfl)).2.2, (SE.out _ _ (by rw [R1.out.2.2.1]; rfl)).2.2⟩ ?_); rintro W2 ⟨B2, q2, q0, q9, b2⟩; have c2 : W2.cell? ⟨wr.heap.size, 20, none⟩ = some (.slice ak n ck9) := by (have h := q2 20 _ R1.out.2.1); (rw [Nat.zero_add] at h); exact h)
          | (refine wpList_load_mid rfl _ _ rfl wr.heap.size 0 rfl ca _ (R1.out.2.2.2.2 W2 q2) Try.underlying24 rfl ia ?_)
          | (refine wpList_load_mid rfl _ _ rfl w.heap.size 0 rfl cx _ q0 Try.underlying24 rfl IX.out.2 ?_))
        go_roundg (L.length - (i + 1))
        case measure => have := HKK.out.1; omega
        case rel => exact ⟨i + 1, rfl, hlt, by rw [NA.out]; simp, by go_num, by rw [NK.out]; rfl, B2, q0, q9⟩
      | true =>
        have CTH : Hid (∀ W, Below wr.heap.size wr W → Calls Try.prog 10 #[.slice ak n ck9, .agg ck.toArray] W fun e w' => e = .returned (.bool kk) ∧ Below W.heap.size W w') := fun W b => ct W _ (KY2.out W b)
        clear ct
        go_wp2_with (first
          | (refine wpList_load_mid rfl _ _ rfl b (o + i * 21) rfl cs _ R1.out.1 Try.underlying36 rfl (by rw [R1.out.2.2.1]; exact size_en) ?_)
          | ((refine wpList_store_mid rfl _ _ _ rfl wr.heap.size 0 cs.toArray rfl rfl (by show World.there _ _ _ cs.toArray.size; rw [List.size_toArray]; exact (SE.out _ _ (by rw [R1.out.2.2.1]; rfl)).1) (by rw [List.size_toArray, R1.out.2.2.1]; exact size_en) (all_oneCell_toArray R1.out.2.2.2.1) ?_); (refine wpList_worldE (fun W => Below w.heap.size w W ∧ W.rangeAt wr.heap.size 0 cs ∧ W.rangeAt w.heap.size 0 cx ∧ W.rangeAt (w.heap.size + 1) 0 ck ∧ Below wr.heap.size wr W) ⟨B.trans ((SE.out _ _ (by rw [R1.out.2.2.1]; rfl)).2.2.mono B.size), (SE.out _ _ (by rw [R1.out.2.2.1]; rfl)).2.1, rng_keep r0 (SE.out _ _ (by rw [R1.out.2.2.1]; rfl)).2.2, rng_keep r9 (SE.out _ _ (by rw [R1.out.2.2.1]; rfl)).2.2, (SE.out _ _ (by rw [R1.out.2.2.1]; rfl)).2.2⟩ ?_); rintro W2 ⟨B2, q2, q0, q9, b2⟩; have c2 : W2.cell? ⟨wr.heap.size, 20, none⟩ = some (.slice ak n ck9) := by (have h := q2 20 _ R1.out.2.1); (rw [Nat.zero_add] at h); exact h)
          | (refine wpList_load_mid rfl _ _ rfl wr.heap.size 0 rfl ca _ (R1.out.2.2.2.2 W2 q2) Try.underlying24 rfl ia ?_)
          | (refine wpList_load_mid rfl _ _ rfl w.heap.size 0 rfl cx _ q0 Try.underlying24 rfl IX.out.2 ?_)
          | (refine wpList_load_mid rfl _ _ rfl (w.heap.size + 1) 0 rfl ck _ q9 Try.underlying26 rfl IX.out.1 ?_)
          | fail)
        with_reducible refine (CTH.out W2 b2).mono ?_
        rintro e w3 ⟨rfl, hb⟩
        replace B2 := B2.trans (hb.mono B2.size)
        replace q0 := rng_keep q0 hb
        replace q9 := rng_keep q9 hb
        clear hb c2 q2 b2
        cases kk with
        | true =>
          go_wp2
          simp [bodyPost, results, Try.results6, go_sem]
          exact ⟨⟨MA.out (i + 1) hlt (by rw [NA.out]; simp), MK.out (i + 1) hlt (by rw [NK.out]; rfl)⟩, B2⟩
        | false =>
          go_wp2
          go_roundg (L.length - (i + 1))
          case measure => have := HKK.out.1; omega
          case rel => exact ⟨i + 1, rfl, hlt, by rw [NA.out]; simp, by go_num, by rw [NK.out]; rfl, B2, q0, q9⟩
end Go.Proofs.Ytongiohdomacoaa

import Derived.Test.YtohdeeidhgkgiaaDoorCBkL
import Derived.Test.YtohdeeidhgkgiaaDoorCBkN
import Derived.Test.YtohdeeidhgkgiaaDoorCLaid
namespace Go.Proofs.YtohdeeidhgkgiaaDoor
open Go.RowKit Go.Sort

theorem own_cells {W : World} {base n : Nat} {v : Value} {L : List Int} (hn : 0 < n) (h : W.ownsRow base 5 1 v n (L.map (Value.int .u8))) : ∃ g cap, v = .slice (some ⟨g, 0, none⟩) n cap ∧ n ≤ cap ∧ ∀ j, j < L.length → W.cell? ⟨g, j, none⟩ = some (.int .u8 (L.getD j 0)) := by
  rcases h.2 with ⟨_, h'⟩ | ⟨g, cap, cur, hv, _, _, hc, _⟩
  · omega
  · subst hv
    refine ⟨g, cap, rfl, hc, fun j hj => ?_⟩
    have := h.cells (g := g) rfl j (.int .u8 (L.getD j 0)) (by rw [List.getElem?_map, List.getElem?_eq_getElem hj]; simp [List.getD, hj])
    rwa [Addr.add_mid, Nat.zero_add] at this
theorem short_of {W : World} {g : Nat} {f : Int} {L1 : List Int} (r1 : L1.length = 32) (h : ∀ j, j < (f :: L1).length → W.cell? ⟨g, j, none⟩ = some (.int .u8 ((f :: L1).getD j 0))) : Cb W g 1 L1 ∧ Fb W g f := by
  refine ⟨⟨r1, fun i hi => ?_⟩, h 0 (by simp)⟩
  have := h (i + 1) (by simp; omega)
  rw [Nat.add_comm 1 i]
  simpa using this
theorem long_of {W : World} {g : Nat} {L1 L2 : List Int} (r1 : L1.length = 32) (r2 : L2.length = 32) (h : ∀ j, j < ((4 :: L1) ++ L2).length → W.cell? ⟨g, j, none⟩ = some (.int .u8 (((4 :: L1) ++ L2).getD j 0))) : Cb W g 1 L1 ∧ Cb W g 33 L2 ∧ Fb W g 4 := by
  have hl : ((4 :: L1) ++ L2).length = 65 := by simp [r1, r2]
  refine ⟨⟨r1, fun i hi => ?_⟩, ⟨r2, fun i hi => ?_⟩, h 0 (by rw [hl]; decide)⟩
  · have := h (1 + i) (by rw [hl]; omega)
    rw [this]
    congr 2
    rw [List.getD, List.getD, List.getElem?_append_left (by simp [r1]; omega), Nat.add_comm 1 i, List.getElem?_cons_succ]
  · have := h (33 + i) (by rw [hl]; omega)
    rw [this]
    congr 2
    rw [List.getD, List.getD, List.getElem?_append_right (by simp [r1]), show 33 + i - (4 :: L1).length = i by simp [r1]]
theorem coord_any {g ob cap : Nat} {n : Int} (hn : Num n) (hp : n < pN) : Hid (∀ w, Mds w → Cb w g ob (putL n) → Calls Tryd.prog 33 #[.slice (some ⟨g, ob, none⟩) 32 cap] w fun e w' => e = .returned (.tuple #[.agg #[.int .u64 (l0 n), .int .u64 (l1 n), .int .u64 (l2 n), .int .u64 (l3 n)], .int .i64 0]) ∧ Below w.heap.size w w') := fun w hm h => by
  refine coord_walk (fun w h => ?_) (fun w hm => ?_) w hm h
  · have := get_some (bb := g) (ob := ob) (cb := cap) (put_bytsC n) (by rw [putL_len]; exact Nat.le_refl _) w (fun i hi => h.2 i (by rw [putL_len] at hi; exact hi))
    rw [putL_len, suf_putC hn] at this
    exact this
  · have := cbelow_any hn w hm
    rw [decide_eq_true hp] at this
    exact this
theorem lnumB_any (v : Int) (w : World) : Calls Tryd.prog 8 #[.int .i64 v] w fun e w' => e = .returned (.int .i64 v) ∧ Below w.heap.size w w' := by
  go_enter Tryd.func8, Tryd.ntmps8
  go_wp2
  simp [bodyPost, results, Tryd.results8, go_sem]
  exact Below.refl _ _
theorem bit_two (y : Int) : bitN y 0 = 0 ∨ bitN y 0 = 1 := by
  unfold bitN
  rw [if_neg (by decide)]
  omega
set_option maxHeartbeats 4000000 in
theorem cback_any {x y : Int} {i : Bool} (hx : Num x) (hy : Num y) (w : World) (hm : Mds w) (hc : Cols w) :
    Calls Tryd.prog 3 #[.agg #[.int .u64 (l0 x), .int .u64 (l1 x), .int .u64 (l2 x), .int .u64 (l3 x), .int .u64 (l0 y), .int .u64 (l1 y), .int .u64 (l2 y), .int .u64 (l3 y), .bool i]] w fun e w' => e = .returned (.bool true) ∧ Below w.heap.size w w' := by
  have BS : Hid (∀ w, Mds w → Cols w → Calls Tryd.prog 4 #[] w fun e w' => e = .returned (.bool true) ∧ Below w.heap.size w w') := fun w hm hc => lbase_any w hm hc.gat
  by_cases hp : Vd x y i
  · cases i with
    | true => exact cback_id BS (con_yes hp) w hm hc
    | false =>
      have CH : Hid (∀ w, Mds w → Calls Tryd.prog 18 #[.agg #[.int .u64 (l0 x), .int .u64 (l1 x), .int .u64 (l2 x), .int .u64 (l3 x), .int .u64 (l0 y), .int .u64 (l1 y), .int .u64 (l2 y), .int .u64 (l3 y), .bool false]] w fun e w' => e = .returned (.int .i64 0) ∧ Below w.heap.size w w') := fun w hm => chf_walk (con_yes hp) w hm
      obtain ⟨ok, ly⟩ := lift_backC hp
      obtain ⟨hn, _, NG⟩ := cneg_any hp
      obtain ⟨_, lz⟩ := lift_backC hn
      have ot := odd_turnedC hp
      rw [ot] at lz
      have nz : Num (modN pN (0 - y)) := hn.2.1.num
      have le : liftE x = 0 := by unfold liftE; rw [if_pos ok]
      have lx : liftX x = x := by unfold liftX; rw [if_pos ok]
      have LF : ∀ o : Bool, Hid (∀ w, Mds w → Calls Tryd.prog 10 #[.agg #[.int .u64 (l0 x), .int .u64 (l1 x), .int .u64 (l2 x), .int .u64 (l3 x)], .bool o] w fun e w' => e = .returned (.tuple #[.agg #[.int .u64 (l0 x), .int .u64 (l1 x), .int .u64 (l2 x), .int .u64 (l3 x), .int .u64 (l0 (liftY o x)), .int .u64 (l1 (liftY o x)), .int .u64 (l2 (liftY o x)), .int .u64 (l3 (liftY o x)), .bool false], .int .i64 0]) ∧ Below w.heap.size w w') := fun o w hm => by
        have := clift_any hx o w hm
        rw [le, lx] at this
        exact this
      have eo := odd_isC y hy
      have L1c := LF (oddC y)
      rw [ly] at L1c
      have L2c := LF (!oddC y)
      rw [lz] at L2c
      have P1 := L1c
      rw [eo] at L1c L2c
      have ne : modN pN (0 - y) ≠ y := fun e => by
        rw [e] at ot
        cases hb : oddC y <;> rw [hb] at ot <;> exact absurd ot (by decide)
      have E3 : ∀ w, (Op.equalIn 10000 26 (.agg #[.int .u64 (l0 x), .int .u64 (l1 x), .int .u64 (l2 x), .int .u64 (l3 x), .int .u64 (l0 (modN pN (0 - y))), .int .u64 (l1 (modN pN (0 - y))), .int .u64 (l2 (modN pN (0 - y))), .int .u64 (l3 (modN pN (0 - y))), .bool false]) (.agg #[.int .u64 (l0 x), .int .u64 (l1 x), .int .u64 (l2 x), .int .u64 (l3 x), .int .u64 (l0 y), .int .u64 (l1 y), .int .u64 (l2 y), .int .u64 (l3 y), .bool false])).run Tryd.prog w = .ok false w := fun w => by
        rw [eq_pt_any hx nz hx hy w]
        rw [decide_eq_false ne]; simp
      have EX : Hid (∀ w, Mds w → Calls Tryd.prog 7 #[.agg #[.int .u64 (l0 x), .int .u64 (l1 x), .int .u64 (l2 x), .int .u64 (l3 x), .int .u64 (l0 y), .int .u64 (l1 y), .int .u64 (l2 y), .int .u64 (l3 y), .bool false]] w fun e w' => ∃ g cap, e = .returned (.tuple #[.slice (some ⟨g, 0, none⟩) 65 cap, .int .i64 0]) ∧ (Cb w' g 1 (putL x) ∧ Cb w' g 33 (putL y) ∧ Fb w' g 4) ∧ 65 ≤ cap ∧ Below w.heap.size w w') := fun w hm => by
        refine (expand_walk (putL_len x) (putL_len y) rfl rfl CH (fun w => put_any w) (fun w => put_any w) w hm).mono ?_
        rintro e w' ⟨v, rfl, ho, hb⟩
        obtain ⟨g, cap, rfl, h1, h2⟩ := own_cells (by decide) ho
        exact ⟨g, cap, rfl, long_of (putL_len x) (putL_len y) h2, h1, hb⟩
      have PB : Hid (∀ g cap w, 65 ≤ cap → Mds w → Cb w g 1 (putL x) → Cb w g 33 (putL y) → Fb w g 4 → Calls Tryd.prog 9 #[.slice (some ⟨g, 0, none⟩) 65 cap] w fun e w' => e = .returned (.tuple #[.agg #[.int .u64 (l0 x), .int .u64 (l1 x), .int .u64 (l2 x), .int .u64 (l3 x), .int .u64 (l0 y), .int .u64 (l1 y), .int .u64 (l2 y), .int .u64 (l3 y), .bool false], .int .i64 0]) ∧ Below w.heap.size w w') := fun g cap w hcap hm h1 h2 h3 =>
        parse_4 (fun w hm h1 h2 => plong_walk hcap (coord_any hx hp.1.2) (coord_any hy hp.2.1.2) (con_yes hp) w hm h1 h2) w hm h1 h2 h3
      have N0 : Hid (∀ w, Calls Tryd.prog 8 #[.int .i64 0] w fun e w' => e = .returned (.int .i64 0) ∧ Below w.heap.size w w') := fun w => lnumB_any 0 w
      rcases bit_two y with hb | hb
      · have oc : oddC y = false := decide_eq_false (by omega)
        rw [oc] at P1
        have BT : Hid (∀ w, Calls Tryd.prog 20 #[.agg #[.int .u64 (l0 y), .int .u64 (l1 y), .int .u64 (l2 y), .int .u64 (l3 y)], .int .i64 0] w fun e w' => e = .returned (.int .i64 0) ∧ Below w.heap.size w w') := fun w => by have := bit_any (k := 0) hy w; rw [hb] at this; exact this
        have CM : Hid (∀ w, Mds w → Calls Tryd.prog 6 #[.agg #[.int .u64 (l0 x), .int .u64 (l1 x), .int .u64 (l2 x), .int .u64 (l3 x), .int .u64 (l0 y), .int .u64 (l1 y), .int .u64 (l2 y), .int .u64 (l3 y), .bool false]] w fun e w' => ∃ g cap, e = .returned (.tuple #[.slice (some ⟨g, 0, none⟩) 33 cap, .int .i64 0]) ∧ (Cb w' g 1 (putL x) ∧ Fb w' g 2) ∧ 33 ≤ cap ∧ Below w.heap.size w w') := fun w hm => by
          refine (compress_2 (putL_len x) rfl CH (fun w => put_any w) BT w hm).mono ?_
          rintro e w' ⟨v, rfl, ho, hb⟩
          obtain ⟨g, cap, rfl, h1, h2⟩ := own_cells (by decide) ho
          exact ⟨g, cap, rfl, short_of (putL_len x) h2, h1, hb⟩
        exact cback_2 BS (con_yes hp) CM EX N0 (fun g cap w hcap hm h1 h2 => parse_2 (fun w hm h1 h2 => pshort_2 hcap (coord_any hx hp.1.2) P1 w hm h1 h2) w hm h1 h2) PB L1c L2c NG (eq_pt_self hp) (eq_pt_self hn) E3 w hm hc
      · have oc : oddC y = true := decide_eq_true hb
        rw [oc] at P1
        have BT : Hid (∀ w, Calls Tryd.prog 20 #[.agg #[.int .u64 (l0 y), .int .u64 (l1 y), .int .u64 (l2 y), .int .u64 (l3 y)], .int .i64 0] w fun e w' => e = .returned (.int .i64 1) ∧ Below w.heap.size w w') := fun w => by have := bit_any (k := 0) hy w; rw [hb] at this; exact this
        have CM : Hid (∀ w, Mds w → Calls Tryd.prog 6 #[.agg #[.int .u64 (l0 x), .int .u64 (l1 x), .int .u64 (l2 x), .int .u64 (l3 x), .int .u64 (l0 y), .int .u64 (l1 y), .int .u64 (l2 y), .int .u64 (l3 y), .bool false]] w fun e w' => ∃ g cap, e = .returned (.tuple #[.slice (some ⟨g, 0, none⟩) 33 cap, .int .i64 0]) ∧ (Cb w' g 1 (putL x) ∧ Fb w' g 3) ∧ 33 ≤ cap ∧ Below w.heap.size w w') := fun w hm => by
          refine (compress_3 (putL_len x) rfl CH (fun w => put_any w) BT w hm).mono ?_
          rintro e w' ⟨v, rfl, ho, hb⟩
          obtain ⟨g, cap, rfl, h1, h2⟩ := own_cells (by decide) ho
          exact ⟨g, cap, rfl, short_of (putL_len x) h2, h1, hb⟩
        exact cback_3 BS (con_yes hp) CM EX N0 (fun g cap w hcap hm h1 h2 => parse_3 (fun w hm h1 h2 => pshort_3 hcap (coord_any hx hp.1.2) P1 w hm h1 h2) w hm h1 h2) PB L1c L2c NG (eq_pt_self hp) (eq_pt_self hn) E3 w hm hc
  · exact cback_off BS (con_no hx hy hp) w hm hc
end Go.Proofs.YtohdeeidhgkgiaaDoor

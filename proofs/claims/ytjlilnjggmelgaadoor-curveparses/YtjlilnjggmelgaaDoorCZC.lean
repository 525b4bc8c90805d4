import Derived.Test.YtjlilnjggmelgaaDoorCZA
import Derived.Test.YtjlilnjggmelgaaDoorUbA
import Derived.Test.YtjlilnjggmelgaaDoorCZB
import Derived.Test.YtjlilnjggmelgaaDoorCRef
/- Parse of any bytes, as the program does it. -/
namespace Go.Proofs.YtjlilnjggmelgaaDoor
open Go.RowKit Go.Sort

def xP (X : List Int) : Int := sufN ((X.drop 1).take 32) 32
def yP (X : List Int) : Int := sufN ((X.drop 33).take 32) 32
def shP (X : List Int) : Prop := X.length = 33 ∧ (X.getD 0 0 = 2 ∨ X.getD 0 0 = 3)
def lgP (X : List Int) : Prop := X.length = 65 ∧ X.getD 0 0 = 4
open Classical in
noncomputable def pK (X : List Int) : Int × Int × Int :=
  if shP X then (if xP X < pN then (liftX (xP X), liftY (decide (X.getD 0 0 = 3)) (xP X), liftE (xP X)) else (0, 0, 51))
  else if lgP X then (if xP X < pN ∧ yP X < pN then (if Vd (xP X) (yP X) false then (xP X, yP X, 0) else (0, 0, 50)) else (0, 0, 51))
  else (0, 0, 51)
theorem zero_pt : (.agg #[.int .u64 (l0 0), .int .u64 (l1 0), .int .u64 (l2 0), .int .u64 (l3 0), .int .u64 (l0 0), .int .u64 (l1 0), .int .u64 (l2 0), .int .u64 (l3 0), .bool false]) = Value.agg #[.int .u64 0, .int .u64 0, .int .u64 0, .int .u64 0, .int .u64 0, .int .u64 0, .int .u64 0, .int .u64 0, .bool false] := by
  obtain ⟨z0, z1, z2, z3⟩ := zero_limbs
  rw [z0, z1, z2, z3]
theorem byts_takeZ {X : List Int} (h : Byts X) (n : Nat) : Byts (X.take n) := fun i => by
  by_cases k : i < n
  · have := h i
    simpa [List.getD, List.getElem?_take, k] using this
  · rw [List.getD, List.getElem?_eq_none (by rw [List.length_take]; omega)]
    exact ⟨by decide, by decide⟩
theorem xy_num {A : List Int} (hA : Byts A) (hl : A.length = 32) : Num (sufN A 32) := by
  have := suf_numU hA (by omega)
  rwa [hl] at this
/-- A coordinate of any 32 bytes. -/
theorem coord_all {A : List Int} {g ob cap : Nat} (hA : Byts A) (hl : A.length = 32) :
    (sufN A 32 < pN → Hid (∀ w, Mds w → Cb w g ob A → Calls Tryd.prog 16 #[.slice (some ⟨g, ob, none⟩) 32 cap] w fun e w' => e = .returned (.tuple #[.agg #[.int .u64 (l0 (sufN A 32)), .int .u64 (l1 (sufN A 32)), .int .u64 (l2 (sufN A 32)), .int .u64 (l3 (sufN A 32))], .int .i64 0]) ∧ Below w.heap.size w w')) ∧
    (¬ sufN A 32 < pN → Hid (∀ w, Mds w → Cb w g ob A → Calls Tryd.prog 16 #[.slice (some ⟨g, ob, none⟩) 32 cap] w fun e w' => e = .returned (.tuple #[.agg #[.int .u64 0, .int .u64 0, .int .u64 0, .int .u64 0], .int .i64 51]) ∧ Below w.heap.size w w')) := by
  have hn := xy_num hA hl
  have GT : Hid (∀ w, Cb w g ob A → Calls Tryd.prog 26 #[.slice (some ⟨g, ob, none⟩) 32 cap] w fun e w' => e = .returned (.tuple #[.agg #[.int .u64 (l0 (sufN A 32)), .int .u64 (l1 (sufN A 32)), .int .u64 (l2 (sufN A 32)), .int .u64 (l3 (sufN A 32))], .int .i64 0]) ∧ Below w.heap.size w w') := fun w h => by
    have := get_some (bb := g) (ob := ob) (cb := cap) hA (by omega) w (fun i hi => h.2 i (by omega))
    rw [hl] at this
    exact this
  refine ⟨fun k => fun w hm h => ?_, fun k => fun w hm h => ?_⟩
  · exact coord_walk GT (fun w hm => by have := cbelow_any hn w hm; rw [decide_eq_true k] at this; exact this) w hm h
  · exact coord_bad GT (fun w hm => by have := cbelow_any hn w hm; rw [decide_eq_false k] at this; exact this) w hm h
theorem cb_of {W : World} {g n m : Nat} {X : List Int} (hz : Bz W g 0 X) (hl : n + 32 ≤ X.length) (hm : m = 32) : Cb W g n ((X.drop n).take m) := by
  subst hm
  refine ⟨by rw [List.length_take, List.length_drop]; omega, fun i hi => ?_⟩
  have hi' : i < 32 := by first | exact hi | (rw [List.length_take, List.length_drop] at hi; omega)
  have := hz (n + i) (by omega)
  rw [Nat.zero_add] at this
  rw [this]
  simp [List.getD, List.getElem?_drop, hi']
theorem fb_of {W : World} {g : Nat} {X : List Int} (hz : Bz W g 0 X) (hl : 0 < X.length) : Fb W g (X.getD 0 0) := hz 0 hl
/-- The program's Parse of any bytes. -/
theorem parse_all {g cap : Nat} {X : List Int} (hX : Byts X) (hc : X.length ≤ cap) (w : World) (hm : Mds w) (hz : Bz w g 0 X) :
    Calls Tryd.prog 5 #[.slice (some ⟨g, 0, none⟩) X.length cap] w fun e w' => e = .returned (.tuple #[.agg #[.int .u64 (l0 (pK X).1), .int .u64 (l1 (pK X).1), .int .u64 (l2 (pK X).1), .int .u64 (l3 (pK X).1), .int .u64 (l0 (pK X).2.1), .int .u64 (l1 (pK X).2.1), .int .u64 (l2 (pK X).2.1), .int .u64 (l3 (pK X).2.1), .bool false], .int .i64 (pK X).2.2]) ∧ Below w.heap.size w w' := by
  have b1 := byts_takeZ (drop_bytsU hX 1) 32
  have b2 := byts_takeZ (drop_bytsU hX 33) 32
  by_cases h33 : X.length = 33
  · have hf := fb_of hz (by omega)
    have k1 : ((X.drop 1).take 32).length = 32 := by rw [List.length_take, List.length_drop]; omega
    have hC := cb_of (n := 1) hz (by omega) rfl
    have hn := xy_num b1 k1
    obtain ⟨c1, c2⟩ := coord_all (g := g) (ob := 1) (cap := cap - 1) b1 k1
    rw [h33] at hc ⊢
    by_cases q : X.getD 0 0 = 2
    · rw [q] at hf
      have dd : decide (X.getD 0 0 = 3) = false := by rw [q]; rfl
      by_cases k : xP X < pN
      · have e : pK X = (liftX (xP X), liftY false (xP X), liftE (xP X)) := by unfold pK; rw [if_pos ⟨h33, .inl q⟩, if_pos k, dd]
        rw [e]
        exact parse_2e (fun w hm h hf => pshort_2e hc (c1 k) (fun w hm => clift_any hn false w hm) w hm h hf) w hm hC hf
      · have e : pK X = (0, 0, 51) := by unfold pK; rw [if_pos ⟨h33, .inl q⟩, if_neg k]
        rw [e]
        refine parse_2e (fun w hm h hf => ?_) w hm hC hf
        rw [zero_pt]
        exact pshort_bad hc (c2 k) w hm h
    have q2 := q
    clear q
    by_cases q : X.getD 0 0 = 3
    · rw [q] at hf
      have dd : decide (X.getD 0 0 = 3) = true := by rw [q]; rfl
      by_cases k : xP X < pN
      · have e : pK X = (liftX (xP X), liftY true (xP X), liftE (xP X)) := by unfold pK; rw [if_pos ⟨h33, .inr q⟩, if_pos k, dd]
        rw [e]
        exact parse_3e (fun w hm h hf => pshort_3e hc (c1 k) (fun w hm => clift_any hn true w hm) w hm h hf) w hm hC hf
      · have e : pK X = (0, 0, 51) := by unfold pK; rw [if_pos ⟨h33, .inr q⟩, if_neg k]
        rw [e]
        refine parse_3e (fun w hm h hf => ?_) w hm hC hf
        rw [zero_pt]
        exact pshort_bad hc (c2 k) w hm h
    have e : pK X = (0, 0, 51) := by
      unfold pK
      rw [if_neg (fun h => h.2.elim q2 q), if_neg (fun h => by have := h.1; omega)]
    rw [e]
    show Calls _ _ _ _ fun e w' => e = .returned (.tuple #[.agg #[.int .u64 (l0 0), .int .u64 (l1 0), .int .u64 (l2 0), .int .u64 (l3 0), .int .u64 (l0 0), .int .u64 (l1 0), .int .u64 (l2 0), .int .u64 (l3 0), .bool false], .int .i64 51]) ∧ _
    rw [zero_pt]
    exact parse_f33 q2 q w hf
  by_cases h65 : X.length = 65
  · have hf := fb_of hz (by omega)
    have k1 : ((X.drop 1).take 32).length = 32 := by rw [List.length_take, List.length_drop]; omega
    have k2 : ((X.drop 33).take 32).length = 32 := by rw [List.length_take, List.length_drop]; omega
    have hC := cb_of (n := 1) hz (by omega) rfl
    have hE := cb_of (n := 33) hz (by omega) rfl
    have n1 := xy_num b1 k1
    have n2 := xy_num b2 k2
    obtain ⟨c1, c2⟩ := coord_all (g := g) (ob := 1) (cap := cap - 1) b1 k1
    obtain ⟨c3, c4⟩ := coord_all (g := g) (ob := 33) (cap := cap - 33) b2 k2
    rw [h65] at hc ⊢
    have ns : ¬ shP X := fun h => h33 h.1
    by_cases q : X.getD 0 0 = 4
    · rw [q] at hf
      have lg : lgP X := ⟨h65, q⟩
      by_cases k : xP X < pN
      · by_cases m : yP X < pN
        · by_cases v : Vd (xP X) (yP X) false
          · have e : pK X = (xP X, yP X, 0) := by unfold pK; rw [if_neg ns, if_pos lg, if_pos ⟨k, m⟩, if_pos v]
            rw [e]
            refine parse_4e (fun w hm h h2 => ?_) w hm hC hE hf
            exact plong_walk hc (c1 k) (c3 m) (fun w hm => by have := con_any (i := false) n1 n2 w hm; rw [decide_eq_true (show Vd (sufN ((X.drop 1).take 32) 32) (sufN ((X.drop 33).take 32) 32) false from v)] at this; exact this) w hm h h2
          · have e : pK X = (0, 0, 50) := by unfold pK; rw [if_neg ns, if_pos lg, if_pos ⟨k, m⟩, if_neg v]
            rw [e]
            refine parse_4e (fun w hm h h2 => ?_) w hm hC hE hf
            rw [zero_pt]
            exact plong_off hc (c1 k) (c3 m) (fun w hm => by have := con_any (i := false) n1 n2 w hm; rw [decide_eq_false (show ¬ Vd (sufN ((X.drop 1).take 32) 32) (sufN ((X.drop 33).take 32) 32) false from v)] at this; exact this) w hm h h2
        · have e : pK X = (0, 0, 51) := by unfold pK; rw [if_neg ns, if_pos lg, if_neg (fun h => m h.2)]
          rw [e]
          refine parse_4e (fun w hm h h2 => ?_) w hm hC hE hf
          rw [zero_pt]
          exact plong_bad2 hc (c1 k) (c4 m) w hm h h2
      · have e : pK X = (0, 0, 51) := by unfold pK; rw [if_neg ns, if_pos lg, if_neg (fun h => k h.1)]
        rw [e]
        refine parse_4e (fun w hm h h2 => ?_) w hm hC hE hf
        rw [zero_pt]
        exact plong_bad1 hc (c2 k) w hm h
    have e : pK X = (0, 0, 51) := by unfold pK; rw [if_neg ns, if_neg (fun h => q h.2)]
    rw [e]
    show Calls _ _ _ _ fun e w' => e = .returned (.tuple #[.agg #[.int .u64 (l0 0), .int .u64 (l1 0), .int .u64 (l2 0), .int .u64 (l3 0), .int .u64 (l0 0), .int .u64 (l1 0), .int .u64 (l2 0), .int .u64 (l3 0), .bool false], .int .i64 51]) ∧ _
    rw [zero_pt]
    exact parse_f65 q w hf
  have e : pK X = (0, 0, 51) := by unfold pK; rw [if_neg (fun h => h33 h.1), if_neg (fun h => h65 h.1)]
  rw [e]
  show Calls _ _ _ _ fun e w' => e = .returned (.tuple #[.agg #[.int .u64 (l0 0), .int .u64 (l1 0), .int .u64 (l2 0), .int .u64 (l3 0), .int .u64 (l0 0), .int .u64 (l1 0), .int .u64 (l2 0), .int .u64 (l3 0), .bool false], .int .i64 51]) ∧ _
  rw [zero_pt]
  exact parse_len h33 h65 w
end Go.Proofs.YtjlilnjggmelgaaDoor

namespace Go.Proofs.YtjlilnjggmelgaaDoor
open Go.RowKit Go.Sort

/-- The document's Parse of any bytes. -/
theorem rparse_all {a : Option Addr} {b o c : Nat} {X : List Int} (hX : Byts X) (hc : X.length ≤ c) (hZ : Az a b o X) (w : World) (hz : Bz w b o X) :
    Calls Tryd.prog 6 #[.slice a X.length c] w fun e w' => e = .returned (.tuple #[.agg #[.int .u64 (l0 (pK X).1), .int .u64 (l1 (pK X).1), .int .u64 (l2 (pK X).1), .int .u64 (l3 (pK X).1), .int .u64 (l0 (pK X).2.1), .int .u64 (l1 (pK X).2.1), .int .u64 (l2 (pK X).2.1), .int .u64 (l3 (pK X).2.1), .bool false], .int .i64 (pK X).2.2]) ∧ Below w.heap.size w w' := by
  have b1 := byts_takeZ (drop_bytsU hX 1) 32
  have b2 := byts_takeZ (drop_bytsU hX 33) 32
  have at_of : X.length ≠ 0 → a = some ⟨b, o, none⟩ := fun h => hZ.resolve_left (fun e => h (by rw [e]; rfl))
  have GG : ∀ n, n + 32 ≤ X.length → Byts ((X.drop n).take 32) → Hid (∀ W, Below w.heap.size w W → Calls Tryd.prog 12 #[.slice (some ⟨b, o + n, none⟩) 32 (c - n)] W fun e w' => e = .returned (.tuple #[.agg #[.int .u64 (l0 (sufN ((X.drop n).take 32) 32)), .int .u64 (l1 (sufN ((X.drop n).take 32) 32)), .int .u64 (l2 (sufN ((X.drop n).take 32) 32)), .int .u64 (l3 (sufN ((X.drop n).take 32) 32))], .int .i64 0]) ∧ Below W.heap.size W w') := fun n hn hb W B => by
    have hl : ((X.drop n).take 32).length = 32 := by rw [List.length_take, List.length_drop]; omega
    have h := rget_any (a := some ⟨b, o + n, none⟩) (bb := b) (ob := o + n) (cb := c - n) (.inr rfl) hb (by omega) W (fun i hi => by
      rw [hl] at hi
      have := (hz.keep B) (n + i) (by omega)
      rw [Nat.add_assoc, this]
      simp [List.getD, List.getElem?_drop, hi])
    rw [hl] at h
    exact h
  have FF : 0 < X.length → Hid (∀ W, Below w.heap.size w W → W.cell? ⟨b, o, none⟩ = some (.int .u8 (X.getD 0 0))) := fun h W B => (hz.keep B) 0 h
  by_cases h33 : X.length = 33
  · have hf := FF (by omega)
    have k1 : ((X.drop 1).take 32).length = 32 := by rw [List.length_take, List.length_drop]; omega
    have hn := xy_num b1 k1
    have g1 := GG 1 (by omega) b1
    rw [at_of (by omega)]
    rw [h33] at hc ⊢
    by_cases q : X.getD 0 0 = 2
    · rw [q] at hf
      have dd : decide (X.getD 0 0 = 3) = false := by rw [q]; rfl
      by_cases k : xP X < pN
      · have e : pK X = (liftX (xP X), liftY false (xP X), liftE (xP X)) := by unfold pK; rw [if_pos ⟨h33, .inl q⟩, if_pos k, dd]
        rw [e]
        exact rparse_s2 hc w hf g1 (fun w => by have := r5low_any hn w; rw [decide_eq_true (show sufN ((X.drop 1).take 32) 32 < pN from k)] at this; exact this) (fun w => r5lift_any hn false w)
      · have e : pK X = (0, 0, 51) := by unfold pK; rw [if_pos ⟨h33, .inl q⟩, if_neg k]
        rw [e]
        show Calls _ _ _ _ fun e w' => e = .returned (.tuple #[.agg #[.int .u64 (l0 0), .int .u64 (l1 0), .int .u64 (l2 0), .int .u64 (l3 0), .int .u64 (l0 0), .int .u64 (l1 0), .int .u64 (l2 0), .int .u64 (l3 0), .bool false], .int .i64 51]) ∧ _
        rw [zero_pt]
        exact rparse_x2 hc w hf g1 (fun w => by have := r5low_any hn w; rw [decide_eq_false (show ¬ sufN ((X.drop 1).take 32) 32 < pN from k)] at this; exact this)
    have q2 := q
    clear q
    by_cases q : X.getD 0 0 = 3
    · rw [q] at hf
      have dd : decide (X.getD 0 0 = 3) = true := by rw [q]; rfl
      by_cases k : xP X < pN
      · have e : pK X = (liftX (xP X), liftY true (xP X), liftE (xP X)) := by unfold pK; rw [if_pos ⟨h33, .inr q⟩, if_pos k, dd]
        rw [e]
        exact rparse_s3 hc w hf g1 (fun w => by have := r5low_any hn w; rw [decide_eq_true (show sufN ((X.drop 1).take 32) 32 < pN from k)] at this; exact this) (fun w => r5lift_any hn true w)
      · have e : pK X = (0, 0, 51) := by unfold pK; rw [if_pos ⟨h33, .inr q⟩, if_neg k]
        rw [e]
        show Calls _ _ _ _ fun e w' => e = .returned (.tuple #[.agg #[.int .u64 (l0 0), .int .u64 (l1 0), .int .u64 (l2 0), .int .u64 (l3 0), .int .u64 (l0 0), .int .u64 (l1 0), .int .u64 (l2 0), .int .u64 (l3 0), .bool false], .int .i64 51]) ∧ _
        rw [zero_pt]
        exact rparse_x3 hc w hf g1 (fun w => by have := r5low_any hn w; rw [decide_eq_false (show ¬ sufN ((X.drop 1).take 32) 32 < pN from k)] at this; exact this)
    have e : pK X = (0, 0, 51) := by
      unfold pK
      rw [if_neg (fun h => h.2.elim q2 q), if_neg (fun h => by have := h.1; omega)]
    rw [e]
    show Calls _ _ _ _ fun e w' => e = .returned (.tuple #[.agg #[.int .u64 (l0 0), .int .u64 (l1 0), .int .u64 (l2 0), .int .u64 (l3 0), .int .u64 (l0 0), .int .u64 (l1 0), .int .u64 (l2 0), .int .u64 (l3 0), .bool false], .int .i64 51]) ∧ _
    rw [zero_pt]
    exact rparse_f33 q2 q w hf
  by_cases h65 : X.length = 65
  · have hf := FF (by omega)
    have k1 : ((X.drop 1).take 32).length = 32 := by rw [List.length_take, List.length_drop]; omega
    have k2 : ((X.drop 33).take 32).length = 32 := by rw [List.length_take, List.length_drop]; omega
    have n1 := xy_num b1 k1
    have n2 := xy_num b2 k2
    have g1 := GG 1 (by omega) b1
    have g2 := GG 33 (by omega) b2
    rw [at_of (by omega)]
    rw [h65] at hc ⊢
    have ns : ¬ shP X := fun h => h33 h.1
    by_cases q : X.getD 0 0 = 4
    · rw [q] at hf
      have lg : lgP X := ⟨h65, q⟩
      by_cases k : xP X < pN
      · have lo1 : Hid (∀ w, Calls Tryd.prog 13 #[.agg #[.int .u64 (l0 (sufN ((X.drop 1).take 32) 32)), .int .u64 (l1 (sufN ((X.drop 1).take 32) 32)), .int .u64 (l2 (sufN ((X.drop 1).take 32) 32)), .int .u64 (l3 (sufN ((X.drop 1).take 32) 32))]] w fun e w' => e = .returned (.bool true) ∧ Below w.heap.size w w') := fun w => by have := r5low_any n1 w; rw [decide_eq_true (show sufN ((X.drop 1).take 32) 32 < pN from k)] at this; exact this
        by_cases m : yP X < pN
        · have lo2 : Hid (∀ w, Calls Tryd.prog 13 #[.agg #[.int .u64 (l0 (sufN ((X.drop 33).take 32) 32)), .int .u64 (l1 (sufN ((X.drop 33).take 32) 32)), .int .u64 (l2 (sufN ((X.drop 33).take 32) 32)), .int .u64 (l3 (sufN ((X.drop 33).take 32) 32))]] w fun e w' => e = .returned (.bool true) ∧ Below w.heap.size w w') := fun w => by have := r5low_any n2 w; rw [decide_eq_true (show sufN ((X.drop 33).take 32) 32 < pN from m)] at this; exact this
          by_cases v : Vd (xP X) (yP X) false
          · have e : pK X = (xP X, yP X, 0) := by unfold pK; rw [if_neg ns, if_pos lg, if_pos ⟨k, m⟩, if_pos v]
            rw [e]
            exact rparse_on hc w hf g1 lo1 g2 lo2 (fun w => by have := r5on_any (i := false) n1 n2 w; rw [decide_eq_true (show Vd (sufN ((X.drop 1).take 32) 32) (sufN ((X.drop 33).take 32) 32) false from v)] at this; exact this)
          · have e : pK X = (0, 0, 50) := by unfold pK; rw [if_neg ns, if_pos lg, if_pos ⟨k, m⟩, if_neg v]
            rw [e]
            show Calls _ _ _ _ fun e w' => e = .returned (.tuple #[.agg #[.int .u64 (l0 0), .int .u64 (l1 0), .int .u64 (l2 0), .int .u64 (l3 0), .int .u64 (l0 0), .int .u64 (l1 0), .int .u64 (l2 0), .int .u64 (l3 0), .bool false], .int .i64 50]) ∧ _
            rw [zero_pt]
            exact rparse_off hc w hf g1 lo1 g2 lo2 (fun w => by have := r5on_any (i := false) n1 n2 w; rw [decide_eq_false (show ¬ Vd (sufN ((X.drop 1).take 32) 32) (sufN ((X.drop 33).take 32) 32) false from v)] at this; exact this)
        · have e : pK X = (0, 0, 51) := by unfold pK; rw [if_neg ns, if_pos lg, if_neg (fun h => m h.2)]
          rw [e]
          show Calls _ _ _ _ fun e w' => e = .returned (.tuple #[.agg #[.int .u64 (l0 0), .int .u64 (l1 0), .int .u64 (l2 0), .int .u64 (l3 0), .int .u64 (l0 0), .int .u64 (l1 0), .int .u64 (l2 0), .int .u64 (l3 0), .bool false], .int .i64 51]) ∧ _
          rw [zero_pt]
          exact rparse_y hc w hf g1 lo1 g2 (fun w => by have := r5low_any n2 w; rw [decide_eq_false (show ¬ sufN ((X.drop 33).take 32) 32 < pN from m)] at this; exact this)
      · have e : pK X = (0, 0, 51) := by unfold pK; rw [if_neg ns, if_pos lg, if_neg (fun h => k h.1)]
        rw [e]
        show Calls _ _ _ _ fun e w' => e = .returned (.tuple #[.agg #[.int .u64 (l0 0), .int .u64 (l1 0), .int .u64 (l2 0), .int .u64 (l3 0), .int .u64 (l0 0), .int .u64 (l1 0), .int .u64 (l2 0), .int .u64 (l3 0), .bool false], .int .i64 51]) ∧ _
        rw [zero_pt]
        exact rparse_x4 hc w hf g1 (fun w => by have := r5low_any n1 w; rw [decide_eq_false (show ¬ sufN ((X.drop 1).take 32) 32 < pN from k)] at this; exact this)
    have e : pK X = (0, 0, 51) := by unfold pK; rw [if_neg ns, if_neg (fun h => q h.2)]
    rw [e]
    show Calls _ _ _ _ fun e w' => e = .returned (.tuple #[.agg #[.int .u64 (l0 0), .int .u64 (l1 0), .int .u64 (l2 0), .int .u64 (l3 0), .int .u64 (l0 0), .int .u64 (l1 0), .int .u64 (l2 0), .int .u64 (l3 0), .bool false], .int .i64 51]) ∧ _
    rw [zero_pt]
    exact rparse_f65 q w hf
  have e : pK X = (0, 0, 51) := by unfold pK; rw [if_neg (fun h => h33 h.1), if_neg (fun h => h65 h.1)]
  rw [e]
  show Calls _ _ _ _ fun e w' => e = .returned (.tuple #[.agg #[.int .u64 (l0 0), .int .u64 (l1 0), .int .u64 (l2 0), .int .u64 (l3 0), .int .u64 (l0 0), .int .u64 (l1 0), .int .u64 (l2 0), .int .u64 (l3 0), .bool false], .int .i64 51]) ∧ _
  rw [zero_pt]
  exact rparse_len h33 h65 w
end Go.Proofs.YtjlilnjggmelgaaDoor

import Derived.Test.YtaefmdofchjofaaRyA
/- Layer 7: bytes put at a room's end. -/
namespace Go.Proofs.Ytaefmdofchjofaa
open Go.RowKit Go.Sort
/-- A room: a whole block of bytes. -/
def Rq (W : World) (gr : Nat) (L : List Int) : Prop := W.heap[gr]? = some (.cells (L.map (Value.int .u8)).toArray 5 (0, 0))
theorem Rq.lt {W : World} {gr : Nat} {L : List Int} (h : Rq W gr L) : gr < W.heap.size := (Array.getElem?_eq_some_iff.1 h).1
theorem Rq.keep {W W' : World} {gr : Nat} {L : List Int} (h : Rq W gr L) (hb : Below W.heap.size W W') : Rq W' gr L := (hb.block gr h.lt).trans h
theorem Rq.grown {W W' : World} {gr : Nat} {L : List Int} {row : Option Nat} (h : Rq W gr L) (hg : W.grownBy W' row) (hn : row ≠ some gr) : Rq W' gr L := (hg.block gr h.lt fun e => hn e.symm).trans h
/-- Bytes written over those that end at m. -/
def ovr (L : List Int) (m : Nat) (X : List Int) : List Int := L.take (m - X.length) ++ (X ++ L.drop m)
theorem ovr_nil (L : List Int) (m : Nat) : ovr L m [] = L := by unfold ovr; simp
theorem ovr_len {L : List Int} {m : Nat} {X : List Int} (h1 : m ≤ L.length) (h2 : X.length ≤ m) : (ovr L m X).length = L.length := by
  unfold ovr
  rw [List.length_append, List.length_append, List.length_take, List.length_drop]; omega
theorem ovr_app {L : List Int} {m : Nat} {X Y : List Int} (h1 : m ≤ L.length) (h2 : X.length + Y.length ≤ m) : ovr (ovr L m X) (m - X.length) Y = ovr L m (Y ++ X) := by
  unfold ovr
  have e1 : (L.take (m - X.length)).length = m - X.length := by rw [List.length_take]; omega
  have e2 : (L.take (m - X.length) ++ (X ++ L.drop m)).take (m - X.length - Y.length) = L.take (m - X.length - Y.length) := by
    rw [List.take_append_of_le_length (by omega), List.take_take]
    congr 1; omega
  have e3 : (L.take (m - X.length) ++ (X ++ L.drop m)).drop (m - X.length) = X ++ L.drop m := by
    rw [List.drop_append_of_le_length (by omega), List.drop_of_length_le (by omega), List.nil_append]
  rw [e2, e3, List.length_append]
  rw [show m - (Y.length + X.length) = m - X.length - Y.length by omega, List.append_assoc]
theorem grown_setRow {w : World} {g : Nat} {cs : Array Value} : w.grownBy (w.setRow g cs) (some g) := ⟨rfl, rfl, rfl, by simp, fun k _ hk => setRow_other w g k _ (fun e => hk (by rw [e]))⟩
set_option maxRecDepth 100000 in
set_option maxHeartbeats 4000000 in
/-- The program's put. -/
theorem put_end {X L : List Int} {a : Option Addr} {b o c gr m n : Nat} (hL : L.length = n) (hm : m ≤ n) (hx : X.length ≤ m) (hn : n < 1000000000) (ha : Az a b o X) (w : World) (hz : Bz w b o X) (hr : Rq w gr L) :
    Calls Try.prog 70 #[.slice (some ⟨gr, 0, none⟩) m n, .slice a X.length c] w fun e w' => e = .returned (.slice (some ⟨gr, 0, none⟩) (m - X.length) n) ∧ Rq w' gr (ovr L m X) ∧ w.grownBy w' (some gr) := by
  have hu := Try.underlying29
  have hsz : (Try.prog.info? 5).map (·.size) = some 1 := by kernel_rfl
  obtain ⟨k, hk⟩ : ∃ k, k = m - X.length := ⟨_, rfl⟩
  have hs : (m : Int) - (X.length : Int) = (k : Int) := by omega
  have hkm : (k : Int) ≤ (m : Int) := by omega
  have hkn : (k : Int) ≤ (n : Int) := by omega
  have hmn : (m : Int) ≤ (n : Int) := by omega
  have hnn : (n : Int) < 1000000000 := by omega
  rw [← hk]
  by_cases h0 : X = []
  · subst h0
    have e : k = m := by simpa using hk
    rw [ovr_nil]
    clear hs hx ha hz hk hn hL
    subst e
    by_cases hq : n = k
    · subst hq
      go_enter Try.func70, Try.ntmps70
      go_wp2_with (refine wpList_copy_nothing rfl _ _ _ _ rfl _ hu hsz _ _ _ _ _ _ rfl rfl (by simp) ?_)
      simp [bodyPost, results, Try.results70, go_sem]
      exact ⟨hr, World.grownBy.refl _ _⟩
    · go_enter Try.func70, Try.ntmps70
      go_wp2_with (refine wpList_copy_nothing rfl _ _ _ _ rfl _ hu hsz _ _ _ _ _ _ rfl rfl (by simp) ?_)
      simp [bodyPost, results, Try.results70, go_sem]
      exact ⟨hr, World.grownBy.refl _ _⟩
  · have hp : 0 < X.length := List.length_pos_iff.2 h0
    obtain rfl := ha.cons hp
    have hlt : ¬ (n = k) := by omega
    have hlt2 : (if n = k then (⟨gr, 0, none⟩ : Addr) else ⟨gr, k, none⟩) = ⟨gr, k, none⟩ := if_neg hlt
    have HX : Hid (X.length = m - k ∧ k + X.length = m ∧ m ≤ n ∧ L.length = n ∧ k = m - X.length) := ⟨by omega, by omega, hm, hL, hk⟩
    have HR : Hid (w.heap[gr]? = some (.cells (L.map (Value.int .u8)).toArray 5 (0, 0))) := hr
    have HS : Hid (Bz w b o X) := hz
    clear hr hz hk hx ha hm hL hp h0 hn
    obtain ⟨XL, hXL⟩ : ∃ q, q = X.length := ⟨_, rfl⟩
    rw [← hXL] at hs ⊢
    have HXL : Hid (XL = X.length) := hXL
    clear hXL
    have hmin : Hid ((X.map (Value.int .u8)).length = Nat.min XL (m - k)) := by
      show _ = _
      rw [List.length_map, HXL.out, HX.out.1]
      exact (Nat.min_self _).symm
    have hfit : Hid (k + (X.map (Value.int .u8)).length ≤ (L.map (Value.int .u8)).toArray.size) := by
      show _ ≤ _
      rw [List.length_map, List.size_toArray, List.length_map]; have := HX.out; omega
    go_enter Try.func70, Try.ntmps70
    go_wp2_with (refine wpList_copy_own rfl _ _ _ _ rfl _ hu hsz gr k (m - k) (n - k) ⟨b, o, none⟩ XL c rfl rfl _ _ HR.out (X.map (Value.int .u8)) hmin.out (fun j v hv => src_bz HS.out j v hv) hfit.out (fun v hv => by obtain ⟨x, _, rfl⟩ := List.mem_map.1 hv; rfl) ?_)
    simp [bodyPost, results, Try.results70, go_sem]
    have e : List.take k (L.map (Value.int .u8)) ++ (X.map (Value.int .u8) ++ List.drop (k + X.length) (L.map (Value.int .u8))) = (ovr L m X).map (Value.int .u8) := by
      unfold ovr
      rw [← HX.out.2.2.2.2, List.map_append, List.map_append, List.map_take, List.map_drop, HX.out.2.1]
    rw [e]
    exact ⟨setRow_heap w gr _ _ _ _ HR.out, grown_setRow⟩
theorem slice_nine {b : Nat} (w : World) : (Instr.sliceAt 116 (.pointer (some ⟨b, 0, none⟩)) none (some (.int .i64 0)) none).run Try.prog w = .ok (.slice (some ⟨b, 0, none⟩) 0 9) w := by
  kernel_rfl
theorem own_nine (w : World) {cs : Array Value} {t : TypeId} (h : cs.size = 9) : OwA (w.alloc (.cells cs t)) w.heap.size [] := by
  have hn : (w.alloc (.cells cs t)).heap[w.heap.size]? = some (.cells cs t) := by
    show (w.heap.push _)[w.heap.size]? = _
    simp
  exact ⟨by simp, fun j v hv => by simp at hv, fun j hj => ⟨by rw [Nat.zero_add, cell_of_row _ _ j _ _ _ hn]; simp [h, hj], by rw [Nat.zero_add]; exact frozen_of_row _ _ j _ _ hn⟩⟩
theorem grown_low {w w1 w2 : World} {gr bh : Nat} (h1 : w.grownBy w1 (some gr)) (h2 : w1.grownBy w2 (some bh)) (hb : w.heap.size ≤ bh) : w.grownBy w2 (some gr) :=
  ⟨h2.os.trans h1.os, h2.tape.trans h1.tape, h2.output.trans h1.output, Nat.le_trans h1.size h2.size, fun k hk hn => (h2.block k (Nat.lt_of_lt_of_le hk h1.size) fun e => by have := Option.some.inj e; omega).trans (h1.block k hk hn)⟩
theorem grown_below {w w1 : World} (row : Option Nat) (h : Below w.heap.size w w1) : w.grownBy w1 row := ⟨h.os, h.tape, h.output, h.size, fun k hk _ => h.block k hk⟩
set_option maxRecDepth 100000 in
set_option maxHeartbeats 4000000 in
/-- The program's putHead. -/
theorem phead_true {L : List Int} {gr m n h : Nat} (hL : L.length = n) (hm : m ≤ n) (hx : (hdR 192 h).length ≤ m) (hn : n < 1000000000) (hh : h < 16777216) (w : World) (hr : Rq w gr L) :
    Calls Try.prog 52 #[.slice (some ⟨gr, 0, none⟩) m n, .bool true, .int .i64 (h : Int)] w fun e w' => e = .returned (.slice (some ⟨gr, 0, none⟩) (m - (hdR 192 h).length) n) ∧ Rq w' gr (ovr L m (hdR 192 h)) ∧ w.grownBy w' (some gr) := by
  have sn := @slice_nine w.heap.size
  have WH : Hid (∀ W g, OwA W g [] → Calls Try.prog 72 #[.slice (some ⟨g, 0, none⟩) 0 9, .bool true, .int .i64 (h : Int)] W fun e w' => e = .returned (.slice (some ⟨g, 0, none⟩) (hdR 192 h).length 9) ∧ OwA w' g (hdR 192 h) ∧ W.grownBy w' (some g)) := fun W g o => whead_true hh W o
  have PU : Hid (∀ W g, OwA W g (hdR 192 h) → Rq W gr L → Calls Try.prog 70 #[.slice (some ⟨gr, 0, none⟩) m n, .slice (some ⟨g, 0, none⟩) (hdR 192 h).length 9] W fun e w' => e = .returned (.slice (some ⟨gr, 0, none⟩) (m - (hdR 192 h).length) n) ∧ Rq w' gr (ovr L m (hdR 192 h)) ∧ W.grownBy w' (some gr)) := fun W g o r => put_end hL hm hx hn (.inr rfl) W o.bz r
  clear hL hm hx hn hh
  generalize hdR 192 h = X at *
  have hgr := hr.lt
  have HO : Hid (∀ cs : Array Value, ∀ t, cs.size = 9 → OwA (w.alloc (.cells cs t)) w.heap.size [] ∧ Rq (w.alloc (.cells cs t)) gr L ∧ w.grownBy (w.alloc (.cells cs t)) (some gr)) := fun cs t hc => ⟨own_nine w hc, hr.keep ((Below.refl _ _).alloc (Nat.le_refl _) _), grown_alloc _ _ _⟩
  go_enter Try.func52, Try.ntmps52
  go_wp2_with (first
    | (go_at_call 72; (with_reducible refine (WH.out _ w.heap.size (HO.out _ _ rfl).1).mono ?_); rintro e1 w1 ⟨rfl, o1, g1⟩; (have r1 : Rq w1 gr L := (HO.out _ _ rfl).2.1.grown g1 (fun e => by have := Option.some.inj e; omega)); (have g2 : w.grownBy w1 (some gr) := grown_low (HO.out _ _ rfl).2.2 g1 (Nat.le_refl _)))
    | (go_at_call 70; (with_reducible refine (PU.out _ w.heap.size o1 r1).mono ?_); rintro e2 w2 ⟨rfl, r2, g3⟩))
  simp [bodyPost, results, Try.results52, go_sem]
  exact ⟨r2, g2.trans g3⟩
set_option maxRecDepth 100000 in
set_option maxHeartbeats 4000000 in
/-- The program's putHead. -/
theorem phead_false {L : List Int} {gr m n h : Nat} (hL : L.length = n) (hm : m ≤ n) (hx : (hdR 128 h).length ≤ m) (hn : n < 1000000000) (hh : h < 16777216) (w : World) (hr : Rq w gr L) :
    Calls Try.prog 52 #[.slice (some ⟨gr, 0, none⟩) m n, .bool false, .int .i64 (h : Int)] w fun e w' => e = .returned (.slice (some ⟨gr, 0, none⟩) (m - (hdR 128 h).length) n) ∧ Rq w' gr (ovr L m (hdR 128 h)) ∧ w.grownBy w' (some gr) := by
  have sn := @slice_nine w.heap.size
  have WH : Hid (∀ W g, OwA W g [] → Calls Try.prog 72 #[.slice (some ⟨g, 0, none⟩) 0 9, .bool false, .int .i64 (h : Int)] W fun e w' => e = .returned (.slice (some ⟨g, 0, none⟩) (hdR 128 h).length 9) ∧ OwA w' g (hdR 128 h) ∧ W.grownBy w' (some g)) := fun W g o => whead_false hh W o
  have PU : Hid (∀ W g, OwA W g (hdR 128 h) → Rq W gr L → Calls Try.prog 70 #[.slice (some ⟨gr, 0, none⟩) m n, .slice (some ⟨g, 0, none⟩) (hdR 128 h).length 9] W fun e w' => e = .returned (.slice (some ⟨gr, 0, none⟩) (m - (hdR 128 h).length) n) ∧ Rq w' gr (ovr L m (hdR 128 h)) ∧ W.grownBy w' (some gr)) := fun W g o r => put_end hL hm hx hn (.inr rfl) W o.bz r
  clear hL hm hx hn hh
  generalize hdR 128 h = X at *
  have hgr := hr.lt
  have HO : Hid (∀ cs : Array Value, ∀ t, cs.size = 9 → OwA (w.alloc (.cells cs t)) w.heap.size [] ∧ Rq (w.alloc (.cells cs t)) gr L ∧ w.grownBy (w.alloc (.cells cs t)) (some gr)) := fun cs t hc => ⟨own_nine w hc, hr.keep ((Below.refl _ _).alloc (Nat.le_refl _) _), grown_alloc _ _ _⟩
  go_enter Try.func52, Try.ntmps52
  go_wp2_with (first
    | (go_at_call 72; (with_reducible refine (WH.out _ w.heap.size (HO.out _ _ rfl).1).mono ?_); rintro e1 w1 ⟨rfl, o1, g1⟩; (have r1 : Rq w1 gr L := (HO.out _ _ rfl).2.1.grown g1 (fun e => by have := Option.some.inj e; omega)); (have g2 : w.grownBy w1 (some gr) := grown_low (HO.out _ _ rfl).2.2 g1 (Nat.le_refl _)))
    | (go_at_call 70; (with_reducible refine (PU.out _ w.heap.size o1 r1).mono ?_); rintro e2 w2 ⟨rfl, r2, g3⟩))
  simp [bodyPost, results, Try.results52, go_sem]
  exact ⟨r2, g2.trans g3⟩
set_option maxRecDepth 100000 in
set_option maxHeartbeats 4000000 in
/-- The program's putText. -/
theorem ptext_any {X L : List Int} {a : Option Addr} {b o c gr m n : Nat} (hL : L.length = n) (hm : m ≤ n) (hx : (encX X).length ≤ m) (hn : n < 1000000000) (hX : X.length < 16777216) (ha : Az a b o X) (w0 w : World) (hB : Below w0.heap.size w0 w) (hz : Bz w0 b o X) (hgr : w0.heap.size ≤ gr) (hr : Rq w gr L) :
    Calls Try.prog 50 #[.slice (some ⟨gr, 0, none⟩) m n, .slice a X.length c] w fun e w' => e = .returned (.slice (some ⟨gr, 0, none⟩) (m - (encX X).length) n) ∧ Rq w' gr (ovr L m (encX X)) ∧ w.grownBy w' (some gr) := by
  have hxl : X.length ≤ (encX X).length := by unfold encX; split <;> simp
  have PU : Hid (Calls Try.prog 70 #[.slice (some ⟨gr, 0, none⟩) m n, .slice a X.length c] w fun e w' => e = .returned (.slice (some ⟨gr, 0, none⟩) (m - X.length) n) ∧ Rq w' gr (ovr L m X) ∧ w.grownBy w' (some gr)) := put_end hL hm (by omega) hn ha w (hz.keep hB) hr
  have BA : Hid (∀ W, w.grownBy W (some gr) → Calls Try.prog 60 #[.slice a X.length c] W fun e w' => e = .returned (.bool (bareB X)) ∧ w' = W) := fun W g => bare_any ha W ((hz.keep hB).grown g fun hne e => by
    have : b < w0.heap.size := World.block_lt_of_cell? w0 _ (hz 0 (List.length_pos_iff.2 hne))
    have := Option.some.inj e
    omega)
  have PH : Hid (bareB X = false → ∀ W, Rq W gr (ovr L m X) → Calls Try.prog 52 #[.slice (some ⟨gr, 0, none⟩) (m - X.length) n, .bool false, .int .i64 (X.length : Int)] W fun e w' => e = .returned (.slice (some ⟨gr, 0, none⟩) (m - (encX X).length) n) ∧ Rq w' gr (ovr L m (encX X)) ∧ W.grownBy w' (some gr)) := fun hb W r => by
    have e : encX X = hdR 128 X.length ++ X := by unfold encX; rw [hb]; rfl
    rw [e] at hx ⊢
    rw [List.length_append] at hx ⊢
    have k := phead_false (L := ovr L m X) (gr := gr) (m := m - X.length) (n := n) (h := X.length) (by rw [ovr_len (by omega) (by omega)]; exact hL) (by omega) (by omega) hn hX W r
    rw [ovr_app (by omega) (by omega)] at k
    rw [show m - ((hdR 128 X.length).length + X.length) = m - X.length - (hdR 128 X.length).length by omega]
    exact k
  clear hz hr
  cases hb : bareB X with
  | true =>
    have e : encX X = X := by unfold encX; rw [hb]; rfl
    rw [e]
    rw [hb] at BA
    clear PH hxl hx e
    generalize X.length = XL at *
    go_enter Try.func50, Try.ntmps50
    go_wp2_with (first
      | (go_at_call 70; (with_reducible refine PU.out.mono ?_); rintro e1 w1 ⟨rfl, r1, g1⟩)
      | (go_at_call 60; (with_reducible refine (BA.out _ g1).mono ?_); rintro e2 w2 ⟨rfl, hw⟩; (rw [hw]); (clear hw w2)))
    simp [bodyPost, results, Try.results50, go_sem]
    exact ⟨r1, g1⟩
  | false =>
    have PH' : Hid (∀ W, Rq W gr (ovr L m X) → Calls Try.prog 52 #[.slice (some ⟨gr, 0, none⟩) (m - X.length) n, .bool false, .int .i64 (X.length : Int)] W fun e w' => e = .returned (.slice (some ⟨gr, 0, none⟩) (m - (encX X).length) n) ∧ Rq w' gr (ovr L m (encX X)) ∧ W.grownBy w' (some gr)) := PH.out hb
    rw [hb] at BA
    clear PH hxl hx
    generalize (encX X).length = EL at *
    generalize encX X = EX at *
    generalize hXL : X.length = XL at *
    go_enter Try.func50, Try.ntmps50
    go_wp2_with (first
      | (go_at_call 70; (with_reducible refine PU.out.mono ?_); rintro e1 w1 ⟨rfl, r1, g1⟩)
      | (go_at_call 60; (with_reducible refine (BA.out _ g1).mono ?_); rintro e2 w2 ⟨rfl, hw⟩; (rw [hw]); (clear hw w2))
      | (go_at_call 52; (with_reducible refine (PH'.out _ r1).mono ?_); rintro e3 w3 ⟨rfl, r3, g3⟩))
    simp [bodyPost, results, Try.results50, go_sem]
    exact ⟨r3, g1.trans g3⟩
end Go.Proofs.Ytaefmdofchjofaa

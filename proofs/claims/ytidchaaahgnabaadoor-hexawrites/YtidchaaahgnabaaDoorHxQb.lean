import Derived.Test.YtidchaaahgnabaaDoorHxQa
import Derived.Lib.SlBytesConst
/- Layer 8: Quantity of the program. -/
namespace Go.Proofs.YtidchaaahgnabaaDoor
open Go.RowKit Go.Sort
/-- A list of one's own, or one that is full and can only be read. -/
def QS (B : Nat) (W : World) (v : Value) (X : List Int) : Prop := OwnB B W v X ∨ ∃ g, v = .slice (some ⟨g, 0, none⟩) X.length X.length ∧ B ≤ g ∧ 0 < X.length ∧ ∀ i, i < X.length → W.cell? ⟨g, i, none⟩ = some (.int .u8 (X.getD i 0))
theorem QS.keep {B : Nat} {W W' : World} {v : Value} {X : List Int} (h : QS B W v X) (hb : Below W.heap.size W W') : QS B W' v X := by
  rcases h with h | ⟨g, h1, h2, h3, h4⟩
  · exact .inl (h.keep hb)
  · exact .inr ⟨g, h1, h2, h3, fun i hi => cellK hb (h4 i hi)⟩
theorem QS.lt {B : Nat} {W : World} {v : Value} {X : List Int} (h : QS B W v X) : ∀ k, v.ownBlock = some k → B ≤ k := by
  rcases h with h | ⟨g, rfl, h2, _⟩
  · exact fun k hk => (h.row.lt k hk).1
  · intro k hk; cases hk; exact h2
theorem zero_size (n : Nat) : (Builtin.zeroCells (Value.int .u8 0).cells n).size = n := by
  simp [Builtin.zeroCells, Value.cells]
theorem run_append_qs {B : Nat} {w : World} {v : Value} {X : List Int} {u : Int} {ad : Addr} {c : Nat} {ty : TypeId} (h : QS B w v X) (hl : X.length < 1073741824) (hB : B ≤ w.heap.size) (hu : ∀ j y, [Value.int .u8 u][j]? = some y → w.cell? (ad.add j) = some y) :
    ∃ v' w', (Builtin.append_ #[30, 30] ty #[v, .slice (some ad) 1 c]).run Tryd.prog w = .ok v' w' ∧ OwnB B w' v' (X ++ [u]) ∧ w.grownBy w' v.ownBlock := by
  obtain ⟨i0, hi, hz0, hz1, hz2⟩ := info_partsH info_byteH
  rcases h with h | ⟨g, rfl, h2, h3, h4⟩
  · obtain ⟨v', w', hr, o2, o3, _, _⟩ := run_append_own_at (P := Tryd.prog) w B 30 ty 5 i0 (.int .u8 0) 1 1 Tryd.underlying30 hi hz0 hz1 hz2 rfl (by decide) v X.length _ h.row ad 1 c [.int .u8 u] rfl hu (fun y hy => by simp at hy; subst hy; rfl) (by unfold maxLen; omega) (by omega) hB
    refine ⟨v', w', hr, ?_, o3⟩
    rw [OwnB, List.length_append, List.map_append]
    exact o2
  · have hr := run_append_grow (P := Tryd.prog) w 30 ty 5 i0 (.int .u8 0) Tryd.underlying30 hi hz0 ⟨g, 0, none⟩ X.length X.length (X.map (Value.int .u8)) (by rw [hz1]; simp) (fun j y hy => by
      rw [List.getElem?_map] at hy
      obtain ⟨x, hx, rfl⟩ := Option.map_eq_some_iff.1 hy
      have hj : j < X.length := (List.getElem?_eq_some_iff.1 hx).1
      rw [Addr.add_mid, Nat.zero_add, h4 j hj]
      simp [List.getD, hx]) ad 1 c [.int .u8 u] (by rw [hz1]; rfl) hu (by omega) (by omega) (by rw [hz2]; exact growslice_fits (by omega) (by omega))
    refine ⟨_, _, hr, ?_, ⟨rfl, rfl, rfl, by simp, fun k hk _ => heap_alloc_old w.drew _ hk⟩⟩
    have c1 := grownCap_ge w (X.length + 1) X.length 5
    obtain ⟨G, eG⟩ : ∃ G, G = grownCap w (X.length + 1) X.length 5 := ⟨_, rfl⟩
    have c2 : G ≤ maxLen := by rw [eG]; exact grownCap_le_maxLen w _ _ _ (by unfold maxLen; omega)
    rw [← eG] at c1 ⊢
    refine ⟨by simp, .inr ⟨w.heap.size, G, (X.map (Value.int .u8)).toArray ++ [Value.int .u8 u].toArray ++ Builtin.zeroCells (Value.int .u8 0).cells (G - (X.length + 1)), by simp, hB, ?_, by simpa using c1, c2, ?_, ?_⟩⟩
    · show (w.heap.push _)[w.heap.size]? = _
      simp
    · have z : (Builtin.zeroCells (Value.int .u8 0).cells (G - (X.length + 1))).size = G - (X.length + 1) := zero_size _
      simp only [Array.size_append, z, List.size_toArray, List.length_map, List.length_cons, List.length_nil]
      omega
    · rw [Array.toList_append, Array.toList_append, List.take_append_of_le_length (by simp)]
      simp
      exact List.take_of_length_le (by simp)
theorem wpList_append_qs {ops : Array Oper} {rest : List Oper} {o : Oper} {a : Act} {Q : Exit → Act → World → Prop} {w : World} (hgd : o.guard = Option.none) (s x : Operand)
    (ho : o.op = .call { callee := .builtin .append, args := #[s, x], argTypes := #[30, 30] }) (B : Nat) (v : Value) (X : List Int) (u : Int) (ad : Addr) (c : Nat) (hs : a.eval s = v) (hx : a.eval x = .slice (some ad) 1 c)
    (h : QS B w v X) (hl : X.length < 1073741824) (hB : B ≤ w.heap.size) (hu : ∀ j y, [Value.int .u8 u][j]? = some y → w.cell? (ad.add j) = some y)
    (hK0 : ∀ v' w', OwnB B w' v' (X ++ [u]) → w.grownBy w' v.ownBlock → wpList Tryd.prog ops Q rest (a.put o.dst v') w') :
    wpList Tryd.prog ops Q (o :: rest) a w := by
  refine wpList_plain hgd fun K hK => ?_
  obtain ⟨v', w', hr, h2, h3⟩ := run_append_qs (ty := o.type) (c := c) h hl hB hu
  unfold Oper.wp execOp
  simp only [ho, resolve, invoke, builtin, Sem.run_bind, Sem.run_pure, Result.andThen_ok, List.map_toArray, List.map_cons, List.map_nil, hs, hx, hr]
  exact hK _ _ (hK0 v' w' h2 h3)
/-- A number's limbs in a block. -/
def NmQ (W : World) (b : Nat) (n : Int) : Prop := ∀ q, q < 4 → W.cell? ⟨b, q, none⟩ = some (.int .u64 ([l0 n, l1 n, l2 n, l3 n].getD q 0))
theorem NmQ.keep {W W' : World} {b : Nat} {n : Int} (h : NmQ W b n) (hb : Below W.heap.size W W') : NmQ W' b n := fun q hq => cellK hb (h q hq)
theorem NmQ.lt {W : World} {b : Nat} {n : Int} (h : NmQ W b n) : b < W.heap.size := World.block_lt_of_cell? W _ (h 0 (by decide))
/-- A constant text's bytes: marked as a text's. -/
theorem wpList_convert_bytes {ops : Array Oper} {rest : List Oper} {o : Oper} {a : Act} {Q : Exit → Act → World → Prop} {w : World} {C : Array Value} (hgd : o.guard = Option.none) (x : Operand) (ho : o.op = .convert 30 30 x) (n c : Nat) {b : Nat} (hb : b = w.heap.size)
    (hx : a.eval x = .slice (some ⟨b, 0, none⟩) n c) (h : wpList Tryd.prog ops Q rest (a.put o.dst (.slice (some ⟨b, 0, none⟩) n c)) (w.alloc (.cells C 5 (C.size, C.size + 1)))) : wpList Tryd.prog ops Q (o :: rest) a (w.alloc (.cells C 5)) := by
  subst hb
  refine wpList_plain hgd fun K hK => ?_
  have hr := Lib.run_convert_bytes_const (P := Tryd.prog) w 30 5 C n c Tryd.underlying30 Tryd.underlying5
  unfold Oper.wp execOp
  simp [ho, hx, hr]
  exact hK _ _ h
/-- The text so far, as numbers. -/
def qI (n : Int) (i : Nat) : List Int := ([48, 120] ++ qtx n i).map fun u : UInt8 => (u.toNat : Int)
theorem qI_len (n : Int) (i : Nat) : (qI n i).length = 2 + i := by rw [qI, List.length_map, List.length_append, qtx_len]; rfl
theorem qI_snoc (n : Int) (i : Nat) : qI n (i + 1) = qI n i ++ [((hd (qdg n (hiD n - i))).toNat : Int)] := by
  rw [qI, qI, qtx_snoc, ← List.append_assoc, List.map_append]; rfl
set_option maxRecDepth 100000 in
set_option maxHeartbeats 8000000 in
theorem quant_any {n : Int} (hn : Num n) (w : World) :
    Calls Tryd.prog 17 #[.agg #[.int .u64 (l0 n), .int .u64 (l1 n), .int .u64 (l2 n), .int .u64 (l3 n)]] w fun e w' => e = .returned (.string ⟨([48, 120] ++ qtx n (hiD n + 1)).toArray⟩) ∧ Below w.heap.size w w' := by
  have HI : Hid (∀ w, Calls Tryd.prog 39 #[.agg #[.int .u64 (l0 n), .int .u64 (l1 n), .int .u64 (l2 n), .int .u64 (l3 n)]] w fun e w' => e = .returned (.int .i64 (4 * (hiD n : Int))) ∧ Below w.heap.size w w') := fun w => highest_any hn w
  have HN : Hid (Num n ∧ hiD n < 64) := ⟨hn, hiD_lt hn⟩
  obtain ⟨K, eK⟩ : ∃ K, K = hiD n := ⟨_, rfl⟩
  have HK0 : Hid (K = hiD n) := eK
  rw [← eK] at HI ⊢
  clear hn eK
  go_enter Tryd.func17, Tryd.ntmps17
  go_wp2_with (refine wpList_convert_bytes rfl _ rfl 2 2 (b := w.heap.size + 1) (by simp) rfl ?_)
  refine calls_world (fun W => Below w.heap.size w W ∧ NmQ W w.heap.size n ∧ QS (w.heap.size + 1) W (.slice (some ⟨w.heap.size + 1, 0, none⟩) 2 2) (qI n 0)) ⟨?_, ?_, ?_⟩ ?_
  · exact ((Below.refl _ _).alloc (Nat.le_refl _) _).alloc (by simp) _
  · intro q hq
    have : q = 0 ∨ q = 1 ∨ q = 2 ∨ q = 3 := by omega
    rcases this with rfl | rfl | rfl | rfl <;> simp [go_sem]
  · refine .inr ⟨w.heap.size + 1, by rw [qI_len], Nat.le_refl _, by rw [qI_len]; decide, fun i hi => ?_⟩
    rw [qI_len] at hi
    have e : w.heap.size + 1 = (w.alloc (.cells #[.int .u64 (l0 n), .int .u64 (l1 n), .int .u64 (l2 n), .int .u64 (l3 n)] 34)).heap.size := by simp
    rw [e, World.cell?_alloc_mark]
    have : i = 0 ∨ i = 1 := by omega
    rcases this with rfl | rfl <;> rfl
  rintro W ⟨B, hM, hQ⟩
  with_reducible refine (HI.out _).mono ?_
  rintro e w1 ⟨rfl, hb⟩
  replace B := B.trans (hb.mono B.size)
  replace hM := hM.keep hb
  replace hQ := hQ.keep hb
  clear hb W HI
  have o1 : w.heap.size + 1 ≤ w1.heap.size := hM.lt
  go_wp2_with fail
  go_loopg [3, 4] (K + 1) (fun kk lv iv wr => ∃ i : Nat, kk = K + 1 - i ∧ i ≤ K + 1 ∧ iv = .int .i64 (4 * (K : Int) - 4 * (i : Int)) ∧ QS (w.heap.size + 1) wr lv (qI n i) ∧ (0 < i → OwnB (w.heap.size + 1) wr lv (qI n i)) ∧ NmQ wr w.heap.size n ∧ Below w.heap.size w wr)
  case atStart => exact ⟨0, rfl, Nat.zero_le _, by simp, hQ, fun h => absurd h (Nat.lt_irrefl _), hM, B⟩
  case round =>
    clear B hM hQ
    obtain ⟨i, hk, hi, rfl, hQ, hO, hM, B⟩ := hrel
    have HK : Hid (gk = K + 1 - i ∧ i ≤ K + 1 ∧ K < 64) := ⟨hk, hi, by have := HN.out.2; have := HK0.out; omega⟩
    clear hk
    by_cases h8 : i = K + 1
    · subst h8
      have ct := OwnB.text (T := [48, 120] ++ qtx n (K + 1)) (hO (by omega)) (by rw [List.length_append]; show 0 < 2 + _; omega)
      have HB : Hid (Below w.heap.size w wr) := B
      have e1 : 4 * (K : Int) - 4 * ((K + 1 : Nat) : Int) = -4 := by omega
      rw [e1]
      generalize hT : [48, 120] ++ qtx n (K + 1) = T at ct
      have HT : Hid ([48, 120] ++ qtx n (K + 1) = T) := hT
      clear hQ hO hM B e1 hi hT
      go_wp2
      simp [bodyPost, results, Tryd.results17, go_sem]
      exact ⟨by rw [← HT.out]; rfl, HB.out⟩
    · obtain ⟨d, ed⟩ : ∃ d, d = K - i := ⟨_, rfl⟩
      have hd64 : d < 64 := by have := HK.out; omega
      obtain ⟨q, eq⟩ : ∃ q, q = d / 16 := ⟨_, rfl⟩
      obtain ⟨r, er⟩ : ∃ r, r = 4 * (d % 16) := ⟨_, rfl⟩
      obtain ⟨at', ea⟩ : ∃ a : Nat, a = 4 * d := ⟨_, rfl⟩
      have i1 : 4 * (K : Int) - 4 * (i : Int) = (at' : Int) := by have := HK.out; omega
      have i2 : (at' : Int) / 64 = (q : Int) := by omega
      have i3 : (at' : Int) % 64 = (r : Int) := by omega
      have q4 : q < 4 := by omega
      have r64 : (r : Int) < 64 := by omega
      have gq := hM q q4
      have dg := limb_dg n hd64
      rw [← eq, ← er] at dg
      have yw : Word ([l0 n, l1 n, l2 n, l3 n].getD q 0) := by
        have : q = 0 ∨ q = 1 ∨ q = 2 ∨ q = 3 := by omega
        rcases this with h | h | h | h <;> rw [h]
        · exact l0_word n
        · exact l1_word n
        · exact l2_word n
        · exact l3_word n
      have aN : at' ≤ 252 := by omega
      have SN : Hid (qI n (i + 1) = qI n i ++ [((hd (qdg n d)).toNat : Int)]) := by rw [qI_snoc, ← HK0.out, ed]; exact rfl
      have LQ : Hid ((qI n i).length = 2 + i ∧ i ≤ 64) := ⟨qI_len n i, by have := HK.out; omega⟩
      have kd := qdg_lt n d
      obtain ⟨y, ey⟩ : ∃ y, Hid (y = [l0 n, l1 n, l2 n, l3 n].getD q 0) := ⟨_, rfl⟩
      rw [← ey.out] at gq dg yw
      obtain ⟨k, ek⟩ : ∃ k, Hid (k = qdg n d) := ⟨_, rfl⟩
      rw [← ek.out] at dg kd SN
      have p0 : (0 : Int) < 2 ^ r := Int.pow_pos (by decide)
      have y0 : 0 ≤ y / 2 ^ r := Int.ediv_nonneg yw.1 (Int.le_of_lt p0)
      have y1 : y / 2 ^ r < 18446744073709551616 := Int.lt_of_le_of_lt (Int.ediv_le_self _ yw.1) yw.2
      have an := and15_64 y0 y1
      rw [dg] at an
      have dt := dig_at64 kd
      obtain ⟨c, ec⟩ : ∃ c : Int, Hid (c = ((hd k).toNat : Int)) := ⟨_, rfl⟩
      rw [← ec.out] at dt SN
      rw [i1]
      have HF : Hid (QS (w.heap.size + 1) wr u3 (qI n i) ∧ NmQ wr w.heap.size n ∧ Below w.heap.size w wr) := ⟨hQ, hM, B⟩
      have IA : Hid (4 * (K : Int) - 4 * (i : Int) = (at' : Int)) := i1
      clear ed eq er ea dg yw y0 y1 kd p0 hQ hO hM B i1 hi
      go_wp2_with (at_builtin; refine wpList_append_qs rfl _ _ rfl (w.heap.size + 1) u3 (qI n i) c ⟨wr.heap.size, 0, none⟩ 1 rfl rfl (HF.out.1.keep ((Below.refl _ _).alloc (Nat.le_refl _) _)) (by have := LQ.out; omega) (by have := HF.out.2.1.lt; simp; omega) (cell_oneH _ _ _) ?_; intro v' w5 hown' hgrow5)
      have BA := (HF.out.2.2.alloc HF.out.2.2.size (.cells #[.int .u8 c] 5))
      have MA := HF.out.2.1.keep ((Below.refl wr.heap.size wr).alloc (Nat.le_refl _) (.cells #[.int .u8 c] 5))
      have HO : Hid (OwnB (w.heap.size + 1) w5 v' (qI n (i + 1)) ∧ NmQ w5 w.heap.size n ∧ Below w.heap.size w w5) := by
        refine ⟨by rw [SN.out]; exact hown', ?_, ?_⟩
        · intro q hq
          have c1 := MA q hq
          have ne : ∀ k, u3.ownBlock = some k → k ≠ w.heap.size := fun k hk e => by have := HF.out.1.lt k hk; omega
          have e : w5.heap[w.heap.size]? = _ := hgrow5.block w.heap.size (World.block_lt_of_cell? _ _ c1) (fun e => ne _ e.symm rfl)
          rw [← c1]; simp only [World.cell?, e]
        · exact BA.grown hgrow5 (by have := HF.out.2.2.size; simp; omega) (fun k hk => by have := HF.out.1.lt k hk; omega)
      clear hown' hgrow5 BA MA
      go_roundg (K + 1 - (i + 1))
      case measure => have := HK.out; omega
      case rel => exact ⟨i + 1, rfl, by have := HK.out; omega, by have := IA.out; congr 1; omega, .inl HO.out.1, fun _ => HO.out.1, HO.out.2.1, HO.out.2.2⟩
end Go.Proofs.YtidchaaahgnabaaDoor

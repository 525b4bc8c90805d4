import Derived.Test.YtncpjgpioajbeaaGreatDoorSRBits
import Derived.Laws.OwnMore
/- The document's primes and the first bits of their roots. -/
namespace Go.Proofs.YtncpjgpioajbeaaGreatDoor.S
open Go.RowKit Go.Sort

/-- Is n a prime? By what divides it up to its root. -/
def prB (n : Nat) : Bool := (List.range n).all fun d => decide (d < 2) || decide (n < d * d) || decide (n % d ≠ 0)
def prs : List Nat := [2, 3, 5, 7, 11, 13, 17, 19, 23, 29, 31, 37, 41, 43, 47, 53, 59, 61, 67, 71, 73, 79, 83, 89, 97, 101, 103, 107, 109, 113, 127, 131, 137, 139, 149, 151, 157, 163, 167, 173, 179, 181, 191, 193, 197, 199, 211, 223, 227, 229, 233, 239, 241, 251, 257, 263, 269, 271, 277, 281, 283, 293, 307, 311]
def cntP (n : Nat) : Nat := (prs.filter fun p => decide (p < n)).length
def rt3 : List Int := [5411319704, 6194414737, 7344290767, 8215976869, 9551921755, 10098905585, 11043570340, 11460697813, 12214315672, 13195500289, 13492127166, 14311783875, 14809980276, 15046980094, 15499789991, 16133124468, 16720292289, 16907126662, 17444216262, 17784676812, 17950125167, 18429019306, 18734950876, 19175934170, 19734090066, 20001703533, 20132865992, 20390182855, 20516441075, 20764397895, 21588763473, 21813078375, 22141143685, 22248366392, 22769593852, 22871018771, 23170020180, 23461497531, 23651862830, 23931792517, 24205322401, 24295138891, 24734567280, 24820601251, 24990902297, 25075189284, 25569408389, 26045227120, 26200031510, 26276752392, 26428864332, 26653801653, 26727943347, 27092625994, 27306805839, 27517677555, 27725365998, 27793908591, 27997534228, 28131656200, 28198240250, 28526537963, 28973835255, 29099129074]
def rt2 : List Int := [6074000999, 7439101573, 9603838834, 11363415354, 14244795007, 15485724812, 17708603819, 18721328409]
set_option maxRecDepth 100000 in
theorem prs_next : ∀ n : Fin 312, 2 ≤ n.val → (prB n.val = true → prs.getD (cntP n.val) 0 = n.val ∧ cntP (n.val + 1) = cntP n.val + 1) ∧ (prB n.val = false → cntP (n.val + 1) = cntP n.val) := by decide +kernel
theorem cnt_2 : cntP 2 = 0 := by decide +kernel
theorem cnt_all : cntP 312 = 64 := by decide +kernel
theorem rt3_ok : ∀ j : Fin 64, 0 ≤ rt3.getD j.val 0 ∧ rt3.getD j.val 0 ^ 3 ≤ (prs.getD j.val 0 : Int) * 4294967296 ^ 3 ∧ (prs.getD j.val 0 : Int) * 4294967296 ^ 3 < (rt3.getD j.val 0 + 1) ^ 3 ∧ rt3.getD j.val 0 % 4294967296 = ((kN.getD j.val 0).toNat : Int) := by decide +kernel
theorem rt2_ok : ∀ j : Fin 8, 0 ≤ rt2.getD j.val 0 ∧ rt2.getD j.val 0 ^ 2 ≤ (prs.getD j.val 0 : Int) * 4294967296 ^ 2 ∧ (prs.getD j.val 0 : Int) * 4294967296 ^ 2 < (rt2.getD j.val 0 + 1) ^ 2 ∧ rt2.getD j.val 0 % 4294967296 = ((hN.getD j.val 0).toNat : Int) := by decide +kernel
theorem root_k {j : Nat} (hj : j < 64) {n r : Int} (e : n = (prs.getD j 0 : Int)) (h : RootOf 3 n r) : r % 4294967296 = U (kN.getD j 0) := by
  obtain ⟨a, b, c, f⟩ := rt3_ok ⟨j, hj⟩
  subst e
  rw [h.unique (.inr rfl) ⟨a, b, c⟩, U_eq]; exact f
theorem root_h {j : Nat} (hj : j < 8) {n r : Int} (e : n = (prs.getD j 0 : Int)) (h : RootOf 2 n r) : r % 4294967296 = U (hN.getD j 0) := by
  obtain ⟨a, b, c, f⟩ := rt2_ok ⟨j, hj⟩
  subst e
  rw [h.unique (.inl rfl) ⟨a, b, c⟩, U_eq]; exact f
theorem prB_yes {n d : Nat} (h : n < d * d) (hi : ∀ t, 2 ≤ t → t < d → n % t ≠ 0) : prB n = true := by
  unfold prB
  apply List.all_eq_true.2
  intro t ht
  by_cases c : t < 2
  · simp [c]
  · by_cases c2 : t < d
    · have := hi t (by omega) c2
      simp [this]
    · have : d * d ≤ t * t := Nat.mul_le_mul (by omega) (by omega)
      have : n < t * t := by omega
      simp [this]
theorem prB_no {n d : Nat} (h2 : 2 ≤ d) (h : d * d ≤ n) (hd : n % d = 0) : prB n = false := by
  apply Bool.eq_false_iff.2
  intro ht
  unfold prB at ht
  have hlt : d < n := by
    have : d * 2 ≤ d * d := Nat.mul_le_mul (Nat.le_refl _) h2
    omega
  have := List.all_eq_true.1 ht d (List.mem_range.2 hlt)
  simp only [Bool.or_eq_true, decide_eq_true_eq] at this
  omega

set_option maxRecDepth 100000 in
set_option maxHeartbeats 4000000 in
theorem prime_any {n : Nat} (n2 : 2 ≤ n) (n1 : n < 1000) (w : World) :
    Calls Tryz.prog 164 #[.int .i64 (n : Int)] w fun e w' => e = .returned (.bool (prB n)) ∧ Below w.heap.size w w' := by
  have NN : Hid (2 ≤ n) := n2
  have n1' : (n : Int) < 1000 := by omega
  obtain ⟨r, er⟩ : ∃ r, r = prB n := ⟨_, rfl⟩
  have ER : Hid (r = prB n) := er
  rw [← er]
  clear er n2
  go_enter Tryz.func164, Tryz.ntmps164
  go_wp2_with fail
  go_loopg [3] n (fun k dv wr => ∃ d : Nat, k = n + 2 - d ∧ 2 ≤ d ∧ d ≤ n ∧ dv = .int .i64 (d : Int) ∧ (∀ t, 2 ≤ t → t < d → n % t ≠ 0) ∧ Below w.heap.size w wr)
  case atStart => exact ⟨2, by omega, by decide, NN.out, rfl, fun t h1 h2 => by omega, Below.refl _ _⟩
  case round =>
    obtain ⟨d, hk, d2, dn, rfl, ev, B⟩ := hrel
    have EV : Hid (∀ t, 2 ≤ t → t < d → n % t ≠ 0) := ev
    have HK : Hid (gk = n + 2 - d) := hk
    have D2 : Hid (2 ≤ d) := d2
    have q0 : (0 : Int) ≤ (d : Int) * (d : Int) := Int.mul_nonneg (by omega) (by omega)
    have q1 : (d : Int) * (d : Int) ≤ 1000000 := Int.le_trans (Int.mul_le_mul (show (d : Int) ≤ 1000 by omega) (show (d : Int) ≤ 1000 by omega) (by omega) (by decide)) (by decide)
    have qq : (d : Int) * (d : Int) = ((d * d : Nat) : Int) := by simp
    have dz : (d : Int) ≠ 0 := by omega
    clear ev hk
    by_cases c : d * d ≤ n
    · have c' : (d : Int) * (d : Int) ≤ (n : Int) := by rw [qq]; omega
      have dl : d < n := by
        have : d * 2 ≤ d * d := Nat.mul_le_mul (Nat.le_refl _) d2
        omega
      by_cases m : n % d = 0
      · have rf : r = false := by rw [ER.out]; exact prB_no D2.out c m
        have RF : Hid (r = false) := rf
        have mz : (n : Int) % (d : Int) = 0 := by omega
        clear c m qq rf dl
        go_wp2
        simp [bodyPost, results, Tryz.results164, go_sem]
        exact ⟨RF.out, B⟩
      · have mz : (n : Int) % (d : Int) ≠ 0 := by omega
        have EN : Hid (∀ t, 2 ≤ t → t < d + 1 → n % t ≠ 0) := fun t h1 h2 => by
          by_cases e : t = d
          · rw [e]; exact m
          · exact EV.out t h1 (by omega)
        have DL : Hid (d < n) := dl
        clear c m qq dl
        go_wp2
        go_roundg (n + 2 - (d + 1))
        case measure => have := HK.out; have := DL.out; omega
        case rel => exact ⟨d + 1, rfl, by omega, by have := DL.out; omega, by go_num, EN.out, B⟩
    · have c' : ¬ (d : Int) * (d : Int) ≤ (n : Int) := by rw [qq]; omega
      have rf : r = true := by rw [ER.out]; exact prB_yes (by omega) EV.out
      have RF : Hid (r = true) := rf
      clear c qq rf
      go_wp2
      simp [bodyPost, results, Tryz.results164, go_sem]
      exact ⟨RF.out, B⟩

theorem info_word : (Tryz.prog.info? 101).map (fun i => (i.zero, i.size, i.bytes)) = some (some (.int .u32 0), 1, 4) := by kernel_rfl
theorem info_partsW {P : Program} {e : TypeId} {z : Value} {s b : Nat} (h : (P.info? e).map (fun i => (i.zero, i.size, i.bytes)) = some (some z, s, b)) : ∃ i, P.info? e = some i ∧ i.zero = some z ∧ i.size = s ∧ i.bytes = b := by
  cases hi : P.info? e with
  | none => rw [hi] at h; cases h
  | some i =>
    rw [hi] at h
    simp only [Option.map_some, Option.some.injEq, Prod.mk.injEq] at h
    exact ⟨i, rfl, h.1, h.2.1, h.2.2⟩
/-- A list of words of one's own. -/
def OwW (B : Nat) (W : World) (v : Value) (L : List (BitVec 32)) : Prop := W.ownsRow B 101 1 v L.length (wrds L)
theorem OwW.nil {B : Nat} {W : World} : OwW B W (.slice none 0 0) [] := ⟨by simp [wrds], .inl ⟨rfl, by simp⟩⟩
theorem grown_of_belowW {W W' : World} (h : Below W.heap.size W W') (row : Option Nat) : W.grownBy W' row := ⟨h.os, h.tape, h.output, h.size, fun k hk _ => h.block k hk⟩
theorem OwW.keep {B : Nat} {W W' : World} {v : Value} {L : List (BitVec 32)} (h : OwW B W v L) (hb : Below W.heap.size W W') : OwW B W' v L :=
  World.ownsRow.kept h (grown_of_belowW hb Option.none) (by cases v.ownBlock <;> simp)
theorem wrds_snoc (X : List (BitVec 32)) (x : BitVec 32) : wrds X ++ [.int .u32 (U x)] = wrds (X ++ [x]) := by simp [wrds]
theorem OwW.form {B : Nat} {W : World} {v : Value} {L : List (BitVec 32)} (h : OwW B W v L) : ∃ a c, v = .slice a L.length c := by
  rcases h.2 with ⟨e, hx⟩ | ⟨g, cap, cur, e, _⟩
  · exact ⟨none, 0, by rw [e, hx]⟩
  · exact ⟨_, cap, e⟩
theorem take_snocW {L : List (BitVec 32)} {j : Nat} (h : j < L.length) : L.take (j + 1) = L.take j ++ [L.getD j 0] := by
  rw [List.take_add_one, List.getElem?_eq_getElem h, List.getD, List.getElem?_eq_getElem h]; rfl

set_option maxRecDepth 100000 in
set_option maxHeartbeats 4000000 in
theorem roots_3 (w : World) :
    Calls Tryz.prog 157 #[.int .i64 64, .int .i64 3] w fun e w' => (∃ v, e = .returned v ∧ OwW w.heap.size w' v kN) ∧ Below w.heap.size w w' := by
  obtain ⟨i0, hi, hz0, hz1, hz2⟩ := info_partsW info_word
  go_enter Tryz.func157, Tryz.ntmps157
  go_wp2_with fail
  go_loopg [5, 6] 310 (fun k lv nv wr => ∃ (n : Nat) (a : Option Addr) (c : Nat), k = 312 - n ∧ 2 ≤ n ∧ n ≤ 312 ∧ nv = .int .i64 (n : Int) ∧ cntP n ≤ 64 ∧ lv = .slice a (cntP n) c ∧ OwW w.heap.size wr lv (kN.take (cntP n)) ∧ Below w.heap.size w wr)
  case atStart => exact ⟨2, none, 0, rfl, by decide, by decide, rfl, by rw [cnt_2]; decide, by rw [cnt_2], by rw [cnt_2]; exact OwW.nil, Below.refl _ _⟩
  case round =>
    obtain ⟨n, a, c, hk, n2, n3, rfl, hj, rfl, hown, B⟩ := hrel
    have HK : Hid (gk = 312 - n) := hk
    have HF : Hid (OwW w.heap.size wr (.slice a (cntP n) c) (kN.take (cntP n)) ∧ Below w.heap.size w wr) := ⟨hown, B⟩
    have N2 : Hid (2 ≤ n ∧ n ≤ 312) := ⟨n2, n3⟩
    clear hk hown B n2 n3
    obtain ⟨j, ej⟩ : ∃ j, j = cntP n := ⟨_, rfl⟩
    have EJ : Hid (j = cntP n) := ej
    rw [← ej] at hj HF ⊢
    clear ej
    by_cases h8 : j = 64
    · subst h8
      have HR : Hid (kN.take 64 = kN) := rfl
      go_wp2
      go_ret
      exact ⟨⟨_, rfl, by have h := HF.out.1; rw [HR.out] at h; exact h⟩, HF.out.2⟩
    · have hlt : j < 64 := by omega
      have hlt' : (j : Int) < 64 := by omega
      have nlt : n < 312 := by
        by_cases c : n = 312
        · exfalso
          have h1 := EJ.out
          rw [c, cnt_all] at h1
          omega
        · have := N2.out; omega
      have T := prs_next ⟨n, nlt⟩ N2.out.1
      have NL : Hid (n < 312) := nlt
      have nI : (n : Int) < 312 := by omega
      have TT : Hid ((prB n = true → prs.getD j 0 = n ∧ cntP (n + 1) = j + 1) ∧ (prB n = false → cntP (n + 1) = j)) := by rw [EJ.out]; exact T
      clear T nlt
      go_wp2_with fail
      refine (prime_any N2.out.1 (by have := N2.out; omega) _).mono ?_
      cases hp : prB n with
      | false =>
        have CN : Hid (cntP (n + 1) = j) := TT.out.2 hp
        clear hp
        rintro e w1 ⟨rfl, hb⟩
        have HG : Hid (OwW w.heap.size w1 (.slice a j c) (kN.take j) ∧ Below w.heap.size w w1) := ⟨HF.out.1.keep hb, HF.out.2.trans (hb.mono HF.out.2.size)⟩
        clear hb
        go_wp2
        go_roundg (312 - (n + 1))
        case measure => have := HK.out; have := NL.out; omega
        case rel => exact ⟨n + 1, a, c, rfl, by have := N2.out; omega, by have := NL.out; omega, by go_num, by rw [CN.out]; omega, by rw [CN.out], by rw [CN.out]; exact HG.out.1, HG.out.2⟩
      | true =>
        obtain ⟨pn, cn⟩ := TT.out.1 hp
        have CN : Hid (cntP (n + 1) = j + 1 ∧ prs.getD j 0 = n) := ⟨cn, pn⟩
        clear hp cn pn
        rintro e w1 ⟨rfl, hb⟩
        have HG : Hid (OwW w.heap.size w1 (.slice a j c) (kN.take j) ∧ Below w.heap.size w w1) := ⟨HF.out.1.keep hb, HF.out.2.trans (hb.mono HF.out.2.size)⟩
        clear hb HF
        go_wp2_with fail
        refine (bits_3 (n := (n : Int)) (by omega) (by have := NL.out; omega) _).mono ?_
        rintro e w2 ⟨⟨r, rfl, hr⟩, hb⟩
        have er : r % 4294967296 = U (kN.getD j 0) := root_k hlt (by rw [CN.out.2]) hr
        rw [er]
        have HJ : Hid (OwW w.heap.size w2 (.slice a j c) (kN.take j) ∧ Below w.heap.size w w2) := ⟨HG.out.1.keep hb, HG.out.2.trans (hb.mono HG.out.2.size)⟩
        have NX : Hid (kN.take (j + 1) = kN.take j ++ [kN.getD j 0]) := take_snocW (by show j < 64; exact hlt)
        have LR : Hid ((kN.take j).length = j ∧ j < 64) := ⟨by rw [List.length_take]; show min j 64 = j; omega, hlt⟩
        generalize kN.getD j 0 = x at *
        obtain ⟨v, ev⟩ : ∃ v, v = Value.slice a j c := ⟨_, rfl⟩
        clear hb er hr HG w1
        rw [← ev] at HJ
        rw [← ev]
        clear ev
        go_wp2_with ((at_builtin; go_loud (refine wpList_append_own_at _ rfl _ _ 158 rfl w.heap.size 101 i0 (.int .u32 0) 1 4 Tryz.underlying158 hi hz0 hz1 hz2 rfl (by decide) v _ _ rfl (World.ownsRow.alloc HJ.out.1 _) ⟨w2.heap.size, 0, none⟩ 1 1 [.int .u32 (U x)] rfl rfl (cell_one_new _ _ _) (fun u hu => by simp at hu; subst hu; rfl) (by unfold maxLen; have := LR.out; omega) (by have := LR.out; omega) (by have := HJ.out.2.size; simp; omega) ?_); intro v' w3 hown' hgrow3 hnil3 hblk))
        have HO : Hid (OwW w.heap.size w3 v' (kN.take (j + 1)) ∧ Below w.heap.size w w3) := by
          refine ⟨?_, ?_⟩
          · rw [NX.out, OwW, List.length_append, ← wrds_snoc]
            exact hown'
          · exact (HJ.out.2.alloc HJ.out.2.size _).grown hgrow3 (by have := HJ.out.2.size; simp; omega) (fun k hk => (World.ownsRow.lt HJ.out.1 k hk).1)
        clear hown' hgrow3 hnil3 hblk
        obtain ⟨a', c', rfl⟩ := HO.out.1.form
        have lt : (kN.take (j + 1)).length = j + 1 := by rw [List.length_take]; show min (j + 1) 64 = j + 1; omega
        rw [lt] at HO
        rw [lt]
        clear lt
        go_wp2
        go_roundg (312 - (n + 1))
        case measure => have := HK.out; have := NL.out; omega
        case rel => exact ⟨n + 1, a', c', rfl, by have := N2.out; omega, by have := NL.out; omega, by go_num, by rw [CN.out.1]; omega, by rw [CN.out.1], by rw [CN.out.1]; exact HO.out.1, HO.out.2⟩

set_option maxRecDepth 100000 in
set_option maxHeartbeats 4000000 in
theorem roots_2 (w : World) :
    Calls Tryz.prog 157 #[.int .i64 8, .int .i64 2] w fun e w' => (∃ v, e = .returned v ∧ OwW w.heap.size w' v hN) ∧ Below w.heap.size w w' := by
  obtain ⟨i0, hi, hz0, hz1, hz2⟩ := info_partsW info_word
  go_enter Tryz.func157, Tryz.ntmps157
  go_wp2_with fail
  go_loopg [5, 6] 310 (fun k lv nv wr => ∃ (n : Nat) (a : Option Addr) (c : Nat), k = 312 - n ∧ 2 ≤ n ∧ n ≤ 312 ∧ nv = .int .i64 (n : Int) ∧ cntP n ≤ 8 ∧ lv = .slice a (cntP n) c ∧ OwW w.heap.size wr lv (hN.take (cntP n)) ∧ Below w.heap.size w wr)
  case atStart => exact ⟨2, none, 0, rfl, by decide, by decide, rfl, by rw [cnt_2]; decide, by rw [cnt_2], by rw [cnt_2]; exact OwW.nil, Below.refl _ _⟩
  case round =>
    obtain ⟨n, a, c, hk, n2, n3, rfl, hj, rfl, hown, B⟩ := hrel
    have HK : Hid (gk = 312 - n) := hk
    have HF : Hid (OwW w.heap.size wr (.slice a (cntP n) c) (hN.take (cntP n)) ∧ Below w.heap.size w wr) := ⟨hown, B⟩
    have N2 : Hid (2 ≤ n ∧ n ≤ 312) := ⟨n2, n3⟩
    clear hk hown B n2 n3
    obtain ⟨j, ej⟩ : ∃ j, j = cntP n := ⟨_, rfl⟩
    have EJ : Hid (j = cntP n) := ej
    rw [← ej] at hj HF ⊢
    clear ej
    by_cases h8 : j = 8
    · subst h8
      have HR : Hid (hN.take 8 = hN) := rfl
      go_wp2
      go_ret
      exact ⟨⟨_, rfl, by have h := HF.out.1; rw [HR.out] at h; exact h⟩, HF.out.2⟩
    · have hlt : j < 8 := by omega
      have hlt' : (j : Int) < 8 := by omega
      have nlt : n < 312 := by
        by_cases c : n = 312
        · exfalso
          have h1 := EJ.out
          rw [c, cnt_all] at h1
          omega
        · have := N2.out; omega
      have T := prs_next ⟨n, nlt⟩ N2.out.1
      have NL : Hid (n < 312) := nlt
      have nI : (n : Int) < 312 := by omega
      have TT : Hid ((prB n = true → prs.getD j 0 = n ∧ cntP (n + 1) = j + 1) ∧ (prB n = false → cntP (n + 1) = j)) := by rw [EJ.out]; exact T
      clear T nlt
      go_wp2_with fail
      refine (prime_any N2.out.1 (by have := N2.out; omega) _).mono ?_
      cases hp : prB n with
      | false =>
        have CN : Hid (cntP (n + 1) = j) := TT.out.2 hp
        clear hp
        rintro e w1 ⟨rfl, hb⟩
        have HG : Hid (OwW w.heap.size w1 (.slice a j c) (hN.take j) ∧ Below w.heap.size w w1) := ⟨HF.out.1.keep hb, HF.out.2.trans (hb.mono HF.out.2.size)⟩
        clear hb
        go_wp2
        go_roundg (312 - (n + 1))
        case measure => have := HK.out; have := NL.out; omega
        case rel => exact ⟨n + 1, a, c, rfl, by have := N2.out; omega, by have := NL.out; omega, by go_num, by rw [CN.out]; omega, by rw [CN.out], by rw [CN.out]; exact HG.out.1, HG.out.2⟩
      | true =>
        obtain ⟨pn, cn⟩ := TT.out.1 hp
        have CN : Hid (cntP (n + 1) = j + 1 ∧ prs.getD j 0 = n) := ⟨cn, pn⟩
        clear hp cn pn
        rintro e w1 ⟨rfl, hb⟩
        have HG : Hid (OwW w.heap.size w1 (.slice a j c) (hN.take j) ∧ Below w.heap.size w w1) := ⟨HF.out.1.keep hb, HF.out.2.trans (hb.mono HF.out.2.size)⟩
        clear hb HF
        go_wp2_with fail
        refine (bits_2 (n := (n : Int)) (by omega) (by have := NL.out; omega) _).mono ?_
        rintro e w2 ⟨⟨r, rfl, hr⟩, hb⟩
        have er : r % 4294967296 = U (hN.getD j 0) := root_h hlt (by rw [CN.out.2]) hr
        rw [er]
        have HJ : Hid (OwW w.heap.size w2 (.slice a j c) (hN.take j) ∧ Below w.heap.size w w2) := ⟨HG.out.1.keep hb, HG.out.2.trans (hb.mono HG.out.2.size)⟩
        have NX : Hid (hN.take (j + 1) = hN.take j ++ [hN.getD j 0]) := take_snocW (by show j < 8; exact hlt)
        have LR : Hid ((hN.take j).length = j ∧ j < 8) := ⟨by rw [List.length_take]; show min j 8 = j; omega, hlt⟩
        generalize hN.getD j 0 = x at *
        obtain ⟨v, ev⟩ : ∃ v, v = Value.slice a j c := ⟨_, rfl⟩
        clear hb er hr HG w1
        rw [← ev] at HJ
        rw [← ev]
        clear ev
        go_wp2_with ((at_builtin; go_loud (refine wpList_append_own_at _ rfl _ _ 158 rfl w.heap.size 101 i0 (.int .u32 0) 1 4 Tryz.underlying158 hi hz0 hz1 hz2 rfl (by decide) v _ _ rfl (World.ownsRow.alloc HJ.out.1 _) ⟨w2.heap.size, 0, none⟩ 1 1 [.int .u32 (U x)] rfl rfl (cell_one_new _ _ _) (fun u hu => by simp at hu; subst hu; rfl) (by unfold maxLen; have := LR.out; omega) (by have := LR.out; omega) (by have := HJ.out.2.size; simp; omega) ?_); intro v' w3 hown' hgrow3 hnil3 hblk))
        have HO : Hid (OwW w.heap.size w3 v' (hN.take (j + 1)) ∧ Below w.heap.size w w3) := by
          refine ⟨?_, ?_⟩
          · rw [NX.out, OwW, List.length_append, ← wrds_snoc]
            exact hown'
          · exact (HJ.out.2.alloc HJ.out.2.size _).grown hgrow3 (by have := HJ.out.2.size; simp; omega) (fun k hk => (World.ownsRow.lt HJ.out.1 k hk).1)
        clear hown' hgrow3 hnil3 hblk
        obtain ⟨a', c', rfl⟩ := HO.out.1.form
        have lt : (hN.take (j + 1)).length = j + 1 := by rw [List.length_take]; show min (j + 1) 8 = j + 1; omega
        rw [lt] at HO
        rw [lt]
        clear lt
        go_wp2
        go_roundg (312 - (n + 1))
        case measure => have := HK.out; have := NL.out; omega
        case rel => exact ⟨n + 1, a', c', rfl, by have := N2.out; omega, by have := NL.out; omega, by go_num, by rw [CN.out.1]; omega, by rw [CN.out.1], by rw [CN.out.1]; exact HO.out.1, HO.out.2⟩
end Go.Proofs.YtncpjgpioajbeaaGreatDoor.S

import Derived.Test.YtjhongkmempepaaDoorESW
import Derived.Test.YtjhongkmempepaaDoorCPnt
import Derived.Test.YtjhongkmempepaaDoorCFp
import Derived.Test.YtjhongkmempepaaDoorEVer
import Derived.Test.YtjhongkmempepaaDoorFRoot
namespace Go.Proofs.YtjhongkmempepaaDoor
open Go.RowKit Go.Sort
set_option maxRecDepth 100000 in
set_option maxHeartbeats 4000000 in
theorem eq_sig_any {x y x' y' : Int} {i j : Bool} (hx : Num x) (hy : Num y) (hx' : Num x') (hy' : Num y') (w : World) :
    (Op.equalIn 10000 28 (.agg #[.int .u64 (l0 x), .int .u64 (l1 x), .int .u64 (l2 x), .int .u64 (l3 x), .int .u64 (l0 y), .int .u64 (l1 y), .int .u64 (l2 y), .int .u64 (l3 y), .bool i]) (.agg #[.int .u64 (l0 x'), .int .u64 (l1 x'), .int .u64 (l2 x'), .int .u64 (l3 x'), .int .u64 (l0 y'), .int .u64 (l1 y'), .int .u64 (l2 y'), .int .u64 (l3 y'), .bool j])).run Tryd.prog w = .ok (decide (x = x') && (decide (y = y') && (i == j))) w := by
  have e1 := eq_num9 hx hx'
  have e2 := eq_num9 hy hy'
  have tf : (Tryd.prog.fieldsOf 28) = #[{ name := "R", type := 26, offset := 0, embedded := false, tag := "", pkgPath := "", byteOffset := 0 }, { name := "S", type := 26, offset := 4, embedded := false, tag := "", pkgPath := "", byteOffset := 32 }, { name := "Odd", type := 4, offset := 8, embedded := false, tag := "", pkgPath := "", byteOffset := 64 }] := by
    unfold Program.fieldsOf; rw [Tryd.underlying28]
  rw [show (10000 : Nat) = 9999 + 1 from rfl, run_equalIn_struct w 9999 _ _ _ (by rw [tf]; exact Tryd.underlying28) (by kernel_rfl), tf]
  have tu := Tryd.underlying4
  have ta := Tryd.isAgg4
  have tz := Tryd.sizeOf4
  have ta' := Tryd.isAgg26
  have tz' := Tryd.sizeOf26
  simp only [Op.eqFields]
  go_simp
  by_cases h1 : x = x' <;> by_cases h2 : y = y' <;> by_cases h3 : i = j <;> simp [h1, h2, h3]

set_option maxRecDepth 100000 in
set_option maxHeartbeats 4000000 in
theorem lfit_zero {x n : Int} (O : Hid (∀ w, Mds w → Calls Tryd.prog 35 #[.int .i64 1] w fun e w' => e = .returned (.tuple #[.agg #[.int .u64 (l0 n), .int .u64 (l1 n), .int .u64 (l2 n), .int .u64 (l3 n)], .int .i64 0]) ∧ Below w.heap.size w w')) (E : ∀ w, (Op.equalIn 10000 26 (.agg #[.int .u64 (l0 x), .int .u64 (l1 x), .int .u64 (l2 x), .int .u64 (l3 x)]) (.agg #[.int .u64 0, .int .u64 0, .int .u64 0, .int .u64 0])).run Tryd.prog w = .ok true w) (w : World) (hm : Mds w) :
    Calls Tryd.prog 14 #[.agg #[.int .u64 (l0 x), .int .u64 (l1 x), .int .u64 (l2 x), .int .u64 (l3 x)]] w fun e w' => e = .returned (.bool false) ∧ Below w.heap.size w w' := by
  go_enter Tryd.func14, Tryd.ntmps14
  go_wp2_with fail
  refine calls_world (fun W => Below w.heap.size w W ∧ Mds W ∧ Hold W w.heap.size x) ⟨by repeat (first | with_reducible exact Below.refl _ _ | with_reducible refine Below.alloc ?_ (by first | omega | (simp; done) | (simp; omega)) _), hm.alloc _, Hold.fresh (by simp)⟩ ?_
  rintro W ⟨B, hD, hX⟩
  with_reducible refine (O.out _ hD).mono ?_
  rintro e w9 ⟨rfl, hb⟩
  replace B := B.trans (hb.mono B.size)
  replace hD := hD.keep hb; replace hX := hX.keep hb
  clear hb W hD
  have gX := hX.allocs
  have BB : Hid (∀ o, Below w.heap.size w (w9.alloc o)) := fun o => B.alloc B.size o
  clear B hX
  go_wp2
  simp [bodyPost, results, Tryd.results14, go_sem]
  exact BB.out _

set_option maxRecDepth 100000 in
set_option maxHeartbeats 4000000 in
theorem lfit_yes {x n q : Int} {v : Bool} (O : Hid (∀ w, Mds w → Calls Tryd.prog 35 #[.int .i64 1] w fun e w' => e = .returned (.tuple #[.agg #[.int .u64 (l0 n), .int .u64 (l1 n), .int .u64 (l2 n), .int .u64 (l3 n)], .int .i64 0]) ∧ Below w.heap.size w w')) (E : ∀ w, (Op.equalIn 10000 26 (.agg #[.int .u64 (l0 x), .int .u64 (l1 x), .int .u64 (l2 x), .int .u64 (l3 x)]) (.agg #[.int .u64 0, .int .u64 0, .int .u64 0, .int .u64 0])).run Tryd.prog w = .ok false w) (C : Hid (∀ w, Calls Tryd.prog 36 #[.agg #[.int .u64 (l0 x), .int .u64 (l1 x), .int .u64 (l2 x), .int .u64 (l3 x)], .agg #[.int .u64 (l0 n), .int .u64 (l1 n), .int .u64 (l2 n), .int .u64 (l3 n)]] w fun e w' => e = .returned (.int .i64 q) ∧ Below w.heap.size w w')) (hv : decide (q < 0) = v) (w : World) (hm : Mds w) :
    Calls Tryd.prog 14 #[.agg #[.int .u64 (l0 x), .int .u64 (l1 x), .int .u64 (l2 x), .int .u64 (l3 x)]] w fun e w' => e = .returned (.bool v) ∧ Below w.heap.size w w' := by
  go_enter Tryd.func14, Tryd.ntmps14
  go_wp2_with fail
  refine calls_world (fun W => Below w.heap.size w W ∧ Mds W ∧ Hold W w.heap.size x) ⟨by repeat (first | with_reducible exact Below.refl _ _ | with_reducible refine Below.alloc ?_ (by first | omega | (simp; done) | (simp; omega)) _), hm.alloc _, Hold.fresh (by simp)⟩ ?_
  rintro W ⟨B, hD, hX⟩
  with_reducible refine (O.out _ hD).mono ?_
  rintro e w1 ⟨rfl, hb⟩
  replace B := B.trans (hb.mono B.size)
  replace hD := hD.keep hb; replace hX := hX.keep hb
  clear hb W
  have ghX := hX.allocs
  go_wp2_with fail
  refine calls_world (fun W => Below w.heap.size w W ∧ Mds W ∧ Hold W w.heap.size x ∧ Hold W w1.heap.size n) ⟨B.alloc B.size _, hD.alloc _, hX.alloc _, Hold.new _ _ _⟩ ?_
  clear B hD hX ghX
  rintro W ⟨B, hD, hX, hM⟩
  generalize w1.heap.size = bm at *
  with_reducible refine (C.out _).mono ?_
  rintro e w9 ⟨rfl, hb⟩
  replace B := B.trans (hb.mono B.size)
  clear hb hX hM hD W
  go_wp2
  simp [bodyPost, results, Tryd.results14, go_sem]
  exact B

theorem lfit_any {x : Int} (hx : Num x) : Hid (∀ w, Mds w → Calls Tryd.prog 14 #[.agg #[.int .u64 (l0 x), .int .u64 (l1 x), .int .u64 (l2 x), .int .u64 (l3 x)]] w fun e w' => e = .returned (.bool (fitN x)) ∧ Below w.heap.size w w') := fun w hm => by
  unfold fitN
  by_cases h : x = 0
  · rw [decide_eq_true h]
    exact lfit_zero (fun w hm => Modulus_good kind_n w hm) (eqz6 hx (decide_eq_true h)) w hm
  · rw [decide_eq_false h]
    exact lfit_yes (fun w hm => Modulus_good kind_n w hm) (eqz6 hx (decide_eq_false h)) (fun w => cmp_any hx num_n w) (cmp_lt x nN) w hm

end Go.Proofs.YtjhongkmempepaaDoor

namespace Go.Proofs.YtjhongkmempepaaDoor
open Go.RowKit Go.Sort

theorem eq2 {n m : Int} (hn : Num n) (hm : Num m) {v : Bool} (e : decide (n = m) = v) : ∀ w, (Op.equalIn 10000 26 (.agg #[.int .u64 (l0 n), .int .u64 (l1 n), .int .u64 (l2 n), .int .u64 (l3 n)]) (.agg #[.int .u64 (l0 m), .int .u64 (l1 m), .int .u64 (l2 m), .int .u64 (l3 m)])).run Tryd.prog w = .ok v w := fun w => by
  rw [eq_num hn hm, e]
/-- s times the nonce. -/
theorem sw_back {t non : Int} (hn : 0 ≤ non) (hz : modN nN non ≠ 0) (ht : modN nN t = t) : modN nN (modN nN (t * invN nN non) * non) = t := by
  have e := EC.inv_n hn hz
  unfold modN at *
  have h1 : (t * invN nN non % nN * non) % nN = (t * (non * invN nN non % nN)) % nN := by
    rw [Int.mul_emod, Int.emod_emod_of_dvd _ (Int.dvd_refl _), ← Int.mul_emod, Int.mul_emod t (non * invN nN non % nN), Int.emod_emod_of_dvd _ (Int.dvd_refl _), ← Int.mul_emod]
    congr 1
    rw [Int.mul_assoc, Int.mul_comm (invN nN non) non]
  rw [h1, e, Int.mul_one, ht]
theorem half_n : shrN nN 1 = 57896044618658097711785492504343953926418782139537452191302581570759080747168 := by decide +kernel
theorem n_lit : nN = 115792089237316195423570985008687907852837564279074904382605163141518161494337 := rfl
theorem mod_small {x : Int} : 0 ≤ modN nN x ∧ modN nN x < nN := modN_lt fit_n x
theorem neg_small {s : Int} (h0 : 0 < s) (h1 : s < nN) : modN nN (0 - s) = nN - s := by
  unfold modN
  have : (0 - s) % nN = (0 - s + nN) % nN := by rw [Int.add_emod_right]
  rw [this, Int.emod_eq_of_lt (by omega) (by omega)]
  omega
theorem fit_true {x : Int} (h0 : x ≠ 0) (h1 : x < nN) : fitN x = true := by unfold fitN; simp [h0, h1]
end Go.Proofs.YtjhongkmempepaaDoor

namespace Go.Proofs.YtjhongkmempepaaDoor
open Go.RowKit Go.Sort

/-- The opposite's value. -/
theorem neg_val {X Y : Int} {j : Bool} (h : Vd X Y j) : Vd X (modN pN (0 - Y)) j ∧ ptOf X (modN pN (0 - Y)) j = (ptOf X Y j).neg := by
  cases j with
  | true => obtain ⟨rfl, rfl⟩ := h; exact ⟨⟨rfl, rfl⟩, rfl⟩
  | false =>
    have en : EC.fp (modN pN (0 - Y)) = -EC.fp Y := by
      rw [EC.fp_mod, EC.fp_sub, EC.fp_zero]
      generalize EC.fp Y = y
      grind -lia -linarith
    have e : ptOf X (modN pN (0 - Y)) false = (ptOf X Y false).neg := by
      show EC.Pt.a _ _ = EC.Pt.a _ _
      rw [en]
    refine ⟨⟨h.1, EC.low_mod _, ?_⟩, e⟩
    rw [e]
    have h0 : EC.fp Y * EC.fp Y = EC.fp X * EC.fp X * EC.fp X + 7 := h.2.2
    show -EC.fp Y * -EC.fp Y = EC.fp X * EC.fp X * EC.fp X + 7
    generalize EC.fp Y = y at *; generalize EC.fp X = x at *
    grind -lia -linarith
theorem low_turned {s : Int} (h0 : 0 < s) (h1 : s < nN) : lowN (modN nN (0 - s)) = !lowN s := by
  unfold lowN
  rw [neg_small h0 h1, half_n, n_lit]
  by_cases h : s ≤ 57896044618658097711785492504343953926418782139537452191302581570759080747168
  · rw [decide_eq_true h, decide_eq_false (by omega)]; rfl
  · rw [decide_eq_false h, decide_eq_true (by rw [n_lit] at h1; omega)]; rfl
theorem odd_turned {X Y : Int} (h : Vd X Y false) : oddB (modN pN (0 - Y)) = !oddB Y := by
  have hy : Y ≠ 0 := fun e => by
    subst e
    have h0 : EC.fp 0 * EC.fp 0 = EC.fp X * EC.fp X * EC.fp X + 7 := h.2.2
    rw [EC.fp_zero] at h0
    refine EC.no_two_p (EC.fp X) ?_
    rw [← h0]
    decide +kernel
  obtain ⟨a, b⟩ := h.2.1
  have e : modN pN (0 - Y) = pN - Y := by
    unfold modN
    have : (0 - Y) % pN = (0 - Y + pN) % pN := by rw [Int.add_emod_right]
    rw [this, Int.emod_eq_of_lt (by omega) (by omega)]
    omega
  rw [EC.pN_is] at b
  rw [e, EC.pN_is]
  unfold oddB bitN
  rw [if_neg (by decide), if_neg (by decide)]
  simp only [show (0 : Int).toNat = 0 from rfl, Int.pow_zero, Int.ediv_one]
  by_cases h1 : Y % 2 = 1
  · rw [decide_eq_true h1, decide_eq_false (by omega)]; rfl
  · rw [decide_eq_false h1, decide_eq_true (by omega)]; rfl
theorem turned_pt {non : Int} (h0 : 0 < non) (h1 : non < nN) : EC.smul (modN nN (0 - non)).toNat EC.gJ.pt = (EC.smul non.toNat EC.gJ.pt).neg := by
  rw [neg_small h0 h1]
  have hn : non.toNat ≤ 115792089237316195423570985008687907852837564279074904382605163141518161494337 := by rw [n_lit] at h1; omega
  rw [EC.base_g.neg hn]
  congr 1
  rw [n_lit]; omega
end Go.Proofs.YtjhongkmempepaaDoor

namespace Go.Proofs.YtjhongkmempepaaDoor
open Go.RowKit Go.Sort

/-- What Lift finds is a point. -/
theorem lift_vd {x : Int} (hx : Num x) (h : liftOk x) (i : Bool) : Vd x (liftY i x) false := by
  obtain ⟨h1, h2⟩ := h
  have lx : EC.Low x := ⟨hx.1, h1⟩
  have hc : modN pN (powN pN (cubN x) qN * powN pN (cubN x) qN) = modN pN (cubN x) := by
    unfold rootE at h2
    by_cases e : modN pN (powN pN (cubN x) qN * powN pN (cubN x) qN) = modN pN (cubN x)
    · exact e
    · rw [if_neg e] at h2; exact absurd h2 (by decide)
  have hr := root_back hc
  have lr : EC.Low (rootN (cubN x)) := by
    have := even_one (powN_lt fit_p (cubN x) qN).1 (powN_lt fit_p (cubN x) qN).2
    unfold rootN
    rw [if_pos hc]
    exact ⟨this.2.1, this.2.2.1⟩
  have base : Vd x (rootN (cubN x)) false := by
    refine ⟨lx, lr, ?_⟩
    have e := congrArg EC.fp hr
    unfold cubN at e
    simp only [EC.fp_mod, EC.fp_mul, EC.fp_add] at e
    rw [show EC.fp 7 = 7 by decide +kernel] at e
    show EC.fp _ * EC.fp _ = _
    unfold cubN
    exact e
  have el : liftY i x = if i then modN pN (0 - rootN (cubN x)) else rootN (cubN x) := by
    unfold liftY; rw [if_pos ⟨h1, h2⟩]
  rw [el]
  cases i with
  | false => exact base
  | true => exact (neg_val base).1
end Go.Proofs.YtjhongkmempepaaDoor

namespace Go.Proofs.YtjhongkmempepaaDoor
open Go.RowKit Go.Sort

theorem chk_fit {r s : Int} (h : chkN r s = 0) : fitN r = true ∧ fitN s = true ∧ lowN s = true := by
  unfold chkN at h
  cases h1 : fitN r with
  | false => rw [h1, if_pos rfl] at h; exact absurd h (by decide)
  | true =>
    rw [h1, if_neg (by decide)] at h
    cases h2 : fitN s with
    | false => rw [h2, if_pos rfl] at h; exact absurd h (by decide)
    | true =>
      rw [h2, if_neg (by decide)] at h
      cases h3 : lowN s with
      | false => rw [h3, if_pos rfl] at h; exact absurd h (by decide)
      | true => exact ⟨rfl, rfl, rfl⟩
/-- The two numbers of which Recover makes the key. -/
def recB (r : Int) (A : List Int) : Int := modN nN (modN nN (0 - dgN A) * invN nN r)
def recC (r s : Int) : Int := modN nN (s * invN nN r)
theorem recover_any {r s X Y : Int} {o j : Bool} {A : List Int} (hr : Num r) (hs : Num s) (hA : Byts A) (hl : A.length = 32) (h : chkN r s = 0) (h2 : liftOk r) (hj : Vd X Y j)
    (ej : ptOf X Y j = (EC.smul (recB r A).toNat EC.gJ.pt).add (EC.smul (recC r s).toNat (ptOf r (liftY o r) false))) : ∀ w, Mds w → Cols w → Calls Tryd.prog 5 #[hashV A, .agg #[.int .u64 (l0 r), .int .u64 (l1 r), .int .u64 (l2 r), .int .u64 (l3 r), .int .u64 (l0 s), .int .u64 (l1 s), .int .u64 (l2 s), .int .u64 (l3 s), .bool o]] w fun e w' => e = .returned (.tuple #[.agg #[.int .u64 (l0 (if j then 0 else X)), .int .u64 (l1 (if j then 0 else X)), .int .u64 (l2 (if j then 0 else X)), .int .u64 (l3 (if j then 0 else X)), .int .u64 (l0 (if j then 0 else Y)), .int .u64 (l1 (if j then 0 else Y)), .int .u64 (l2 (if j then 0 else Y)), .int .u64 (l3 (if j then 0 else Y)), .bool false], .int .i64 (if j then 65 else 0)]) ∧ Below w.heap.size w w' := fun w hm hc => by
  have C0 := echeck_any (o := o) hr hs
  rw [h] at C0
  obtain ⟨f1, _, _⟩ := chk_fit h
  obtain ⟨r0, r1⟩ := fitN_fit f1
  have hz : modN nN r ≠ 0 := by rw [modN_of_lt hr.1 r1]; exact r0
  have C1 := fun w hm => clift_any hr o w hm
  have e1 : liftE r = 0 := by unfold liftE; rw [if_pos h2]
  have e2 : liftX r = r := by unfold liftX; rw [if_pos h2]
  rw [e1, e2] at C1
  have hv := lift_vd hr h2 o
  have nv : Num (invN nN r) := powN_Num fit_n _ _
  have CN : Hid (∀ w, Mds w → Calls Tryd.prog 20 #[.agg ((A.map fun z => Value.int .u8 z).toArray)] w fun e w' => e = .returned (.agg #[.int .u64 (l0 (dgN A)), .int .u64 (l1 (dgN A)), .int .u64 (l2 (dgN A)), .int .u64 (l3 (dgN A))]) ∧ Below w.heap.size w w') := fun w hm => enumber_any hA hl w hm
  have CO := eopp_any (x := dgN A) (modN_Num fit_n _)
  have C3 : Hid (∀ w, Mds w → Calls Tryd.prog 18 #[.agg #[.int .u64 (l0 (modN nN (0 - dgN A))), .int .u64 (l1 (modN nN (0 - dgN A))), .int .u64 (l2 (modN nN (0 - dgN A))), .int .u64 (l3 (modN nN (0 - dgN A)))], .agg #[.int .u64 (l0 (invN nN r)), .int .u64 (l1 (invN nN r)), .int .u64 (l2 (invN nN r)), .int .u64 (l3 (invN nN r))]] w fun e w' => e = .returned (.agg #[.int .u64 (l0 (recB r A)), .int .u64 (l1 (recB r A)), .int .u64 (l2 (recB r A)), .int .u64 (l3 (recB r A))]) ∧ Below w.heap.size w w') := eprod_any (modN_Num fit_n _) nv
  have C4 : Hid (∀ w, Mds w → Calls Tryd.prog 18 #[.agg #[.int .u64 (l0 s), .int .u64 (l1 s), .int .u64 (l2 s), .int .u64 (l3 s)], .agg #[.int .u64 (l0 (invN nN r)), .int .u64 (l1 (invN nN r)), .int .u64 (l2 (invN nN r)), .int .u64 (l3 (invN nN r))]] w fun e w' => e = .returned (.agg #[.int .u64 (l0 (recC r s)), .int .u64 (l1 (recC r s)), .int .u64 (l2 (recC r s)), .int .u64 (l3 (recC r s))]) ∧ Below w.heap.size w w') := eprod_any hs nv
  have CM := fun w hm hc => cmuladd_any (a := recB r A) (b := recC r s) (modN_Num fit_n _) (modN_Num fit_n _) hv hj ej w hm hc
  cases j with
  | true => exact erec_none hl C0 C1 (einv_any hr hz) CN CO C3 C4 CM w hm hc
  | false => exact erec_ok hl C0 C1 (einv_any hr hz) CN CO C3 C4 CM w hm hc
def verB (s : Int) (A : List Int) : Int := modN nN (dgN A * invN nN s)
def verC (r s : Int) : Int := modN nN (r * invN nN s)
theorem verify_any {x y r s X Y : Int} {o j : Bool} {A : List Int} (hv : Vd x y false) (hr : Num r) (hs : Num s) (hA : Byts A) (hl : A.length = 32) (h : chkN r s = 0) (hj : Vd X Y j)
    (ej : ptOf X Y j = (EC.smul (verB s A).toNat EC.gJ.pt).add (EC.smul (verC r s).toNat (ptOf x y false))) : ∀ w, Mds w → Cols w → Calls Tryd.prog 12 #[.agg #[.int .u64 (l0 x), .int .u64 (l1 x), .int .u64 (l2 x), .int .u64 (l3 x), .int .u64 (l0 y), .int .u64 (l1 y), .int .u64 (l2 y), .int .u64 (l3 y), .bool false], hashV A, .agg #[.int .u64 (l0 r), .int .u64 (l1 r), .int .u64 (l2 r), .int .u64 (l3 r), .int .u64 (l0 s), .int .u64 (l1 s), .int .u64 (l2 s), .int .u64 (l3 s), .bool o]] w fun e w' => e = .returned (.tuple #[.bool (!j && decide (modN nN X = r)), .int .i64 0]) ∧ Below w.heap.size w w' := fun w hm hc => by
  have C1 := echeck_any (o := o) hr hs
  rw [h] at C1
  obtain ⟨_, f2, _⟩ := chk_fit h
  obtain ⟨s0, s1⟩ := fitN_fit f2
  have hz : modN nN s ≠ 0 := by rw [modN_of_lt hs.1 s1]; exact s0
  have nv : Num (invN nN s) := powN_Num fit_n _ _
  have CN : Hid (∀ w, Mds w → Calls Tryd.prog 20 #[.agg ((A.map fun z => Value.int .u8 z).toArray)] w fun e w' => e = .returned (.agg #[.int .u64 (l0 (dgN A)), .int .u64 (l1 (dgN A)), .int .u64 (l2 (dgN A)), .int .u64 (l3 (dgN A))]) ∧ Below w.heap.size w w') := fun w hm => enumber_any hA hl w hm
  have C3 : Hid (∀ w, Mds w → Calls Tryd.prog 18 #[.agg #[.int .u64 (l0 (dgN A)), .int .u64 (l1 (dgN A)), .int .u64 (l2 (dgN A)), .int .u64 (l3 (dgN A))], .agg #[.int .u64 (l0 (invN nN s)), .int .u64 (l1 (invN nN s)), .int .u64 (l2 (invN nN s)), .int .u64 (l3 (invN nN s))]] w fun e w' => e = .returned (.agg #[.int .u64 (l0 (verB s A)), .int .u64 (l1 (verB s A)), .int .u64 (l2 (verB s A)), .int .u64 (l3 (verB s A))]) ∧ Below w.heap.size w w') := eprod_any (modN_Num fit_n _) nv
  have C4 : Hid (∀ w, Mds w → Calls Tryd.prog 18 #[.agg #[.int .u64 (l0 r), .int .u64 (l1 r), .int .u64 (l2 r), .int .u64 (l3 r)], .agg #[.int .u64 (l0 (invN nN s)), .int .u64 (l1 (invN nN s)), .int .u64 (l2 (invN nN s)), .int .u64 (l3 (invN nN s))]] w fun e w' => e = .returned (.agg #[.int .u64 (l0 (verC r s)), .int .u64 (l1 (verC r s)), .int .u64 (l2 (verC r s)), .int .u64 (l3 (verC r s))]) ∧ Below w.heap.size w w') := eprod_any hr nv
  have CM := fun w hm hc => cmuladd_any (a := verB s A) (b := verC r s) (modN_Num fit_n _) (modN_Num fit_n _) hv hj ej w hm hc
  cases j with
  | true => exact ever_none hl (con_yes hv) C1 (einv_any hs hz) CN C3 C4 CM w hm hc
  | false => exact ever_ok hl (con_yes hv) C1 (einv_any hs hz) CN C3 C4 CM (ered_any hj.low.1.num) (eq2 (modN_Num fit_n _) hr rfl) w hm hc
end Go.Proofs.YtjhongkmempepaaDoor

namespace Go.Proofs.YtjhongkmempepaaDoor
open Go.RowKit Go.Sort

theorem smul_modE {p : EC.Pt} (hp : EC.On p) (k : Nat) : EC.smul (k % 115792089237316195423570985008687907852837564279074904382605163141518161494337) p = EC.smul k p := by
  have e := Nat.div_add_mod k 115792089237316195423570985008687907852837564279074904382605163141518161494337
  conv => rhs; rw [← e]
  rw [EC.smul_add hp, EC.smul_mul hp, EC.ord_all hp, EC.smul_o]
  rfl
/-- The multiple of a point by a number modulo n. -/
def sm (a : Int) (P : EC.Pt) : EC.Pt := EC.smul (modN nN a).toNat P
theorem sm_nat {a : Int} {P : EC.Pt} (hP : EC.On P) (h : 0 ≤ a) : EC.smul a.toNat P = sm a P := by
  unfold sm
  rw [← smul_modE hP a.toNat]
  have e : a.toNat % 115792089237316195423570985008687907852837564279074904382605163141518161494337 = (modN nN a).toNat := by
    show _ = (a % nN).toNat
    rw [EC.nN_is]
    omega
  rw [e]
theorem sm_on {a : Int} {P : EC.Pt} (hP : EC.On P) : EC.On (sm a P) := EC.smul_on hP _
theorem sm_eq {a b : Int} {P : EC.Pt} (h : modN nN a = modN nN b) : sm a P = sm b P := by unfold sm; rw [h]
theorem sm_add {a b : Int} {P : EC.Pt} (hP : EC.On P) : sm (a + b) P = (sm a P).add (sm b P) := by
  have a0 := (mod_small (x := a)).1
  have b0 := (mod_small (x := b)).1
  rw [sm_eq (show modN nN (a + b) = modN nN (modN nN a + modN nN b) by rw [modN_add_l, modN_add_r]), ← sm_nat hP (by omega), Int.toNat_add a0 b0, EC.smul_add hP]
  rfl
theorem sm_mul {a b : Int} {P : EC.Pt} (hP : EC.On P) : sm (a * b) P = sm a (sm b P) := by
  have a0 := (mod_small (x := a)).1
  have b0 := (mod_small (x := b)).1
  rw [sm_eq (show modN nN (a * b) = modN nN (modN nN b * modN nN a) by rw [modN_mul_l, modN_mul_r, Int.mul_comm]), ← sm_nat hP (Int.mul_nonneg b0 a0), Int.toNat_mul b0 a0, EC.smul_mul hP]
  rfl
theorem sm_dist {a : Int} {P Q : EC.Pt} (hP : EC.On P) (hQ : EC.On Q) : sm a (P.add Q) = (sm a P).add (sm a Q) := EC.smul_dist hP hQ _
theorem sm_one {P : EC.Pt} : sm 1 P = P := by
  unfold sm
  rw [show (modN nN 1).toNat = 1 by decide +kernel]
  exact EC.smul_one P
theorem ver_back {r e s u : Int} {G R Q : EC.Pt} (hG : EC.On G) (hR : EC.On R) (hQ : EC.On Q) (hu : modN nN (s * u) = 1) (hl : (sm e G).add (sm r Q) = sm s R) : (sm (e * u) G).add (sm (r * u) Q) = R := by
  rw [Int.mul_comm e, Int.mul_comm r, sm_mul hG, sm_mul hQ, ← sm_dist (sm_on hG) (sm_on hQ), hl, ← sm_mul hR, Int.mul_comm u, sm_eq (show modN nN (s * u) = modN nN 1 by rw [hu]; decide +kernel), sm_one]
theorem recB_mul {r : Int} {A : List Int} (hr : 0 ≤ r) (hz : modN nN r ≠ 0) : modN nN (r * recB r A) = modN nN (0 - dgN A) := by
  have i := EC.inv_n hr hz
  unfold recB
  rw [modN_mul_r, show r * (modN nN (0 - dgN A) * invN nN r) = modN nN (0 - dgN A) * (r * invN nN r) by rw [Int.mul_left_comm], ← modN_mul_r, i, Int.mul_one, modN_mod]
theorem recC_mul {r s : Int} (hr : 0 ≤ r) (hz : modN nN r ≠ 0) : modN nN (r * recC r s) = modN nN s := by
  have i := EC.inv_n hr hz
  unfold recC
  rw [modN_mul_r, show r * (s * invN nN r) = s * (r * invN nN r) by rw [Int.mul_left_comm], ← modN_mul_r, i, Int.mul_one]
end Go.Proofs.YtjhongkmempepaaDoor

import Derived.Test.YtncpjgpioajbeaaGreatDoorEWhN
import Derived.Test.YtncpjgpioajbeaaGreatDoorNzK
import Derived.Test.YtncpjgpioajbeaaGreatDoorESW
/- Genuine: Recover of what Sign answers. -/
namespace Go.Proofs.YtncpjgpioajbeaaGreatDoor
open Go.RowKit Go.Sort

set_option maxHeartbeats 4000000 in
theorem rec_good {key X s k x y : Int} {o : Bool} {A : List Int} (hk : Num key) (hl : A.length = 32) (hA : Byts A) (nX : Num X) (fx : fitN X = true) (s0 : 0 < s) (s1 : s < nN) (lo : lowN s = true) (h2 : liftOk X)
    (eR : ptOf X (liftY o X) false = sm k EC.gJ.pt) (hrel : modN nN (s * k) = modN nN (dgN A + X * key)) (hp : Vd x y false) (ep : ptOf x y false = EC.smul key.toNat EC.gJ.pt) :
    ∀ w, Mds w → Cols w → Calls Tryz.prog 9 #[hashV A, .agg #[.int .u64 (l0 X), .int .u64 (l1 X), .int .u64 (l2 X), .int .u64 (l3 X), .int .u64 (l0 s), .int .u64 (l1 s), .int .u64 (l2 s), .int .u64 (l3 s), .bool o]] w fun e w' => e = .returned (.tuple #[.agg #[.int .u64 (l0 x), .int .u64 (l1 x), .int .u64 (l2 x), .int .u64 (l3 x), .int .u64 (l0 y), .int .u64 (l1 y), .int .u64 (l2 y), .int .u64 (l3 y), .bool false], .int .i64 0]) ∧ Below w.heap.size w w' := by
  have ns : Num s := ⟨by omega, by have := num_n.2; omega⟩
  have chk : chkN X s = 0 := by unfold chkN; rw [fx, fit_true (by omega) s1, lo]; simp
  obtain ⟨x0, x1⟩ := fitN_fit fx
  have hz : modN nN X ≠ 0 := by rw [modN_of_lt nX.1 x1]; exact x0
  have onG := EC.gJ_on
  have hvR := lift_vd nX h2 o
  have onR := hvR.on
  have eQ : ptOf x y false = sm key EC.gJ.pt := by rw [ep, sm_nat onG hk.1]
  have ej : ptOf x y false = (EC.smul (recB X A).toNat EC.gJ.pt).add (EC.smul (recC X s).toNat (ptOf X (liftY o X) false)) := by
    have b0 : 0 ≤ recB X A := (mod_small (x := modN nN (0 - dgN A) * invN nN X)).1
    have c0 : 0 ≤ recC X s := (mod_small (x := s * invN nN X)).1
    rw [sm_nat onG b0, sm_nat onR c0, eR, key_back onG nX.1 hz hrel (recB_mul nX.1 hz) (recC_mul nX.1 hz), eQ]
  exact recover_any (o := o) nX ns hA hl chk h2 hp ej
set_option maxHeartbeats 4000000 in
theorem rec_back {key non x y : Int} {A : List Int} (hk : Num key) (hn : Num non) (hl : A.length = 32) (hA : Byts A) (h1 : fitN key = true) (he : (swZ key A non).e = 0) (hp : Vd x y false) (ep : ptOf x y false = EC.smul key.toNat EC.gJ.pt) :
    ∀ w, Mds w → Cols w → Calls Tryz.prog 9 #[hashV A, .agg #[.int .u64 (l0 (swZ key A non).r), .int .u64 (l1 (swZ key A non).r), .int .u64 (l2 (swZ key A non).r), .int .u64 (l3 (swZ key A non).r), .int .u64 (l0 (swZ key A non).s), .int .u64 (l1 (swZ key A non).s), .int .u64 (l2 (swZ key A non).s), .int .u64 (l3 (swZ key A non).s), .bool (swZ key A non).o]] w fun e w' => e = .returned (.tuple #[.agg #[.int .u64 (l0 x), .int .u64 (l1 x), .int .u64 (l2 x), .int .u64 (l3 x), .int .u64 (l0 y), .int .u64 (l1 y), .int .u64 (l2 y), .int .u64 (l3 y), .bool false], .int .i64 0]) ∧ Below w.heap.size w w' := by
  obtain ⟨X, Y, j, hv, ev, e⟩ := swZ_is key A non
  rw [e] at he ⊢
  have nX := hv.low.1.num
  cases h2 : fitN non with
  | false =>
    have e2 : swR key non A X Y = ⟨0, 0, false, 60⟩ := by unfold swR; rw [h1, h2, Bool.and_false, if_pos rfl]
    rw [e2] at he
    exact absurd he (by decide)
  | true =>
    obtain ⟨n0, n1⟩ := fitN_fit h2
    have p0 : 0 < non := by have := hn.1; omega
    have hz : modN nN non ≠ 0 := by rw [modN_of_lt hn.1 n1]; exact n0
    have b0 : swR key non A X Y = if ¬ X < nN then ⟨0, 0, false, 64⟩ else if X = 0 ∨ swS key non (dgN A) X = 0 then ⟨0, 0, false, 65⟩ else if lowN (swS key non (dgN A) X) then ⟨X, swS key non (dgN A) X, oddB Y, 0⟩ else ⟨X, modN nN (0 - swS key non (dgN A) X), !oddB Y, 0⟩ := by
      unfold swR; rw [h1, h2, Bool.and_self, if_neg (by decide)]
    have sl : 0 ≤ swS key non (dgN A) X ∧ swS key non (dgN A) X < nN := mod_small
    have hrel : modN nN (swS key non (dgN A) X * non) = modN nN (dgN A + X * key) := by
      unfold swS
      rw [sw_back hn.1 hz (modN_mod _), modN_add_r]
    rw [b0] at he ⊢
    clear b0 e
    generalize swS key non (dgN A) X = s at *
    by_cases c1 : X < nN
    · rw [if_neg (not_not_intro c1)] at he ⊢
      by_cases c2 : X = 0 ∨ s = 0
      · rw [if_pos c2] at he
        exact absurd he (by decide)
      · rw [if_neg c2] at he ⊢
        have x1 : X ≠ 0 := fun e => c2 (.inl e)
        have s0 : 0 < s := by have h : s ≠ 0 := fun e => c2 (.inr e); omega
        have fr := fit_true x1 c1
        have hj : j = false := by
          cases j with
          | false => rfl
          | true => exact absurd hv.1 x1
        subst hj
        obtain ⟨lk, ly⟩ := lift_back hv
        cases h5 : lowN s with
        | true =>
          rw [if_pos rfl]
          exact rec_good hk hl hA nX fr s0 sl.2 h5 lk (by rw [ly, ev, sm_nat EC.gJ_on hn.1]) hrel hp ep
        | false =>
          rw [if_neg (by decide)]
          obtain ⟨hv', ev'⟩ := neg_val hv
          obtain ⟨_, ly'⟩ := lift_back hv'
          rw [odd_turned hv] at ly'
          have e2 := neg_small s0 sl.2
          have lh : lowN (modN nN (0 - s)) = true := by rw [low_turned s0 sl.2, h5]; rfl
          exact rec_good (k := 0 - non) (X := X) (s := modN nN (0 - s)) (o := !oddB Y) hk hl hA nX fr (by rw [e2]; have := sl.2; omega) (by rw [e2]; omega) lh lk (by rw [ly', ev', ev, ← turned_pt p0 n1]; rfl) (by rw [modN_mul_l, show (0 - s) * (0 - non) = s * non by rw [Int.zero_sub, Int.zero_sub, Int.neg_mul_neg], hrel]) hp ep
    · rw [if_pos c1] at he
      exact absurd he (by decide)
theorem key_there {key : Int} (hk : Num key) (h1 : fitN key = true) : ∃ x y, Vd x y false ∧ ptOf x y false = EC.smul key.toNat EC.gJ.pt := by
  obtain ⟨q0, q1⟩ := fitN_fit h1
  obtain ⟨x, y, i, hp, ep⟩ := rep_pt (EC.smul_on EC.gJ_on key.toNat)
  cases i with
  | false => exact ⟨x, y, hp, ep⟩
  | true => exact absurd ep.symm (key_pt (by have := hk.1; omega) q1)
end Go.Proofs.YtncpjgpioajbeaaGreatDoor

/- EcdsaGenuine. -/
namespace Go.Proofs.YtncpjgpioajbeaaGreatDoor
open Go.RowKit Go.Sort

/-- What holds in the law behind its first call. -/
structure GnZ (w W : World) (key : Int) (M : List Value) (bs : Nat) (x : SwR) : Prop where
  below : Below w.heap.size w W
  mds : Mds W
  tab : ShT W
  col : Cols W
  key : Hold W w.heap.size key
  dig : W.rangeAt (w.heap.size + 1) 0 M
  sig : Pnt W bs x.r x.s x.o
  ge : w.heap.size + 1 < bs
theorem GnZ.keep {w W W' : World} {key : Int} {M : List Value} {bs : Nat} {x : SwR} (h : GnZ w W key M bs x) (B : Below W.heap.size W W') : GnZ w W' key M bs x := ⟨h.below.trans (B.mono h.below.size), h.mds.keep B, h.tab.keep B, h.col.keep B, h.key.keep B, rangeZ h.dig B, h.sig.keep B, h.ge⟩

set_option maxRecDepth 100000 in
set_option maxHeartbeats 16000000 in
theorem genuine_walk {R : Nat → SwR} {nv nf : Nat → Int} {x : SwR} {key px py : Int} {fk : Bool} {M : List Value} (hl : M.length = 32) (hx : fk = true → okZ2 R = x) (h0 : fk = false → x = ⟨0, 0, false, 60⟩) (nx : Num x.r ∧ Num x.s)
    (SG : Hid (∀ w, Mds w → ShT w → Cols w → Calls Tryz.prog 5 #[.agg #[.int .u64 (l0 key), .int .u64 (l1 key), .int .u64 (l2 key), .int .u64 (l3 key)], .agg M.toArray] w fun e w' => e = .returned (.tuple #[.agg #[.int .u64 (l0 x.r), .int .u64 (l1 x.r), .int .u64 (l2 x.r), .int .u64 (l3 x.r), .int .u64 (l0 x.s), .int .u64 (l1 x.s), .int .u64 (l2 x.s), .int .u64 (l3 x.s), .bool x.o], .int .i64 x.e]) ∧ Below w.heap.size w w'))
    (LF : Hid (∀ w, Mds w → Calls Tryz.prog 6 #[.agg #[.int .u64 (l0 key), .int .u64 (l1 key), .int .u64 (l2 key), .int .u64 (l3 key)]] w fun e w' => e = .returned (.bool fk) ∧ Below w.heap.size w w'))
    (PN : Hid (∀ (i : Nat) W, Mds W → ShT W → Calls Tryz.prog 7 #[.agg #[.int .u64 (l0 key), .int .u64 (l1 key), .int .u64 (l2 key), .int .u64 (l3 key)], .agg M.toArray, .int .i64 (i : Int)] W fun e w' => e = .returned (.tuple #[.agg #[.int .u64 (l0 (nv i)), .int .u64 (l1 (nv i)), .int .u64 (l2 (nv i)), .int .u64 (l3 (nv i))], .int .i64 (nf i)]) ∧ Below W.heap.size W w'))
    (PS : Hid (∀ (i : Nat), nf i = 0 → ∀ W, Mds W → Cols W → Calls Tryz.prog 8 #[.agg #[.int .u64 (l0 key), .int .u64 (l1 key), .int .u64 (l2 key), .int .u64 (l3 key)], .agg #[.int .u64 (l0 (nv i)), .int .u64 (l1 (nv i)), .int .u64 (l2 (nv i)), .int .u64 (l3 (nv i))], .agg M.toArray] W fun e w' => e = .returned (.tuple #[.agg #[.int .u64 (l0 (R i).r), .int .u64 (l1 (R i).r), .int .u64 (l2 (R i).r), .int .u64 (l3 (R i).r), .int .u64 (l0 (R i).s), .int .u64 (l1 (R i).s), .int .u64 (l2 (R i).s), .int .u64 (l3 (R i).s), .bool (R i).o], .int .i64 (R i).e]) ∧ Below W.heap.size W w'))
    (RE : Hid (∀ i : Nat, nf i ≠ 0 → (R i).e ≠ 0))
    (RC : Hid (∀ (i : Nat), fk = true → nf i = 0 → (R i).e = 0 → ∀ W, Mds W → Cols W → Calls Tryz.prog 9 #[.agg M.toArray, .agg #[.int .u64 (l0 (R i).r), .int .u64 (l1 (R i).r), .int .u64 (l2 (R i).r), .int .u64 (l3 (R i).r), .int .u64 (l0 (R i).s), .int .u64 (l1 (R i).s), .int .u64 (l2 (R i).s), .int .u64 (l3 (R i).s), .bool (R i).o]] W fun e w' => e = .returned (.tuple #[.agg #[.int .u64 (l0 px), .int .u64 (l1 px), .int .u64 (l2 px), .int .u64 (l3 px), .int .u64 (l0 py), .int .u64 (l1 py), .int .u64 (l2 py), .int .u64 (l3 py), .bool false], .int .i64 0]) ∧ Below W.heap.size W w'))
    (MG : Hid (fk = true → ∀ W, Mds W → Cols W → Calls Tryz.prog 10 #[.agg #[.int .u64 (l0 key), .int .u64 (l1 key), .int .u64 (l2 key), .int .u64 (l3 key)]] W fun e w' => e = .returned (.agg #[.int .u64 (l0 px), .int .u64 (l1 px), .int .u64 (l2 px), .int .u64 (l3 px), .int .u64 (l0 py), .int .u64 (l1 py), .int .u64 (l2 py), .int .u64 (l3 py), .bool false]) ∧ Below W.heap.size W w'))
    (EP : Hid (fk = true → ∀ w, (Op.equalIn 10000 37 (.agg #[.int .u64 (l0 px), .int .u64 (l1 px), .int .u64 (l2 px), .int .u64 (l3 px), .int .u64 (l0 py), .int .u64 (l1 py), .int .u64 (l2 py), .int .u64 (l3 py), .bool false]) (.agg #[.int .u64 (l0 px), .int .u64 (l1 px), .int .u64 (l2 px), .int .u64 (l3 px), .int .u64 (l0 py), .int .u64 (l1 py), .int .u64 (l2 py), .int .u64 (l3 py), .bool false])).run Tryz.prog w = .ok true w)) (w : World) (hm : Mds w) (ht : ShT w) (hc : Cols w) :
    Calls Tryz.prog 3 #[.agg #[.int .u64 (l0 key), .int .u64 (l1 key), .int .u64 (l2 key), .int .u64 (l3 key)], .agg M.toArray] w fun e w' => e = .returned (.bool true) ∧ Below w.heap.size w w' := by
  have il : (Tryz.prog.info? 26).map (·.size) = some M.length := by rw [hl]; kernel_rfl
  have HX : Hid ((fk = true → okZ2 R = x) ∧ (fk = false → x = ⟨0, 0, false, 60⟩) ∧ Num x.r ∧ Num x.s) := ⟨hx, h0, nx⟩
  have BA : Hid (∀ (V : World) o, Below V.heap.size V (V.alloc o)) := fun V o => (Below.refl _ _).alloc (Nat.le_refl _) o
  have EQ := es_same' (od := x.o) nx.1 nx.2
  have NC : ∀ t1 t2, (Below w.heap.size w ((w.alloc (.cells #[.int .u64 (l0 key), .int .u64 (l1 key), .int .u64 (l2 key), .int .u64 (l3 key)] t1)).alloc (.cells M.toArray t2)) ∧ Mds ((w.alloc (.cells #[.int .u64 (l0 key), .int .u64 (l1 key), .int .u64 (l2 key), .int .u64 (l3 key)] t1)).alloc (.cells M.toArray t2)) ∧ ShT ((w.alloc (.cells #[.int .u64 (l0 key), .int .u64 (l1 key), .int .u64 (l2 key), .int .u64 (l3 key)] t1)).alloc (.cells M.toArray t2)) ∧ Cols ((w.alloc (.cells #[.int .u64 (l0 key), .int .u64 (l1 key), .int .u64 (l2 key), .int .u64 (l3 key)] t1)).alloc (.cells M.toArray t2))) ∧ Hold ((w.alloc (.cells #[.int .u64 (l0 key), .int .u64 (l1 key), .int .u64 (l2 key), .int .u64 (l3 key)] t1)).alloc (.cells M.toArray t2)) w.heap.size key ∧ ((w.alloc (.cells #[.int .u64 (l0 key), .int .u64 (l1 key), .int .u64 (l2 key), .int .u64 (l3 key)] t1)).alloc (.cells M.toArray t2)).rangeAt (w.heap.size + 1) 0 M ∧ ((w.alloc (.cells #[.int .u64 (l0 key), .int .u64 (l1 key), .int .u64 (l2 key), .int .u64 (l3 key)] t1)).alloc (.cells M.toArray t2)).heap.size = w.heap.size + 1 + 1 := fun t1 t2 => by
    refine ⟨⟨((Below.refl _ _).alloc (Nat.le_refl _) _).alloc (by simp) _, (hm.alloc _).alloc _, (ht.keep (BA.out _ _)).keep (BA.out _ _), (hc.keep (BA.out _ _)).keep (BA.out _ _)⟩, (Hold.new _ _ _).keep (BA.out _ _), ?_, by simp⟩
    have := range_newZ (W := w.alloc (.cells #[.int .u64 (l0 key), .int .u64 (l1 key), .int .u64 (l2 key), .int .u64 (l3 key)] t1)) (cs := M) (t := t2)
    rwa [show (w.alloc (.cells #[.int .u64 (l0 key), .int .u64 (l1 key), .int .u64 (l2 key), .int .u64 (l3 key)] t1)).heap.size = w.heap.size + 1 by simp] at this
  have rg0 := fun t1 t2 => (NC t1 t2).2.2.1
  clear hl hx h0 nx
  go_enter Tryz.func3, Tryz.ntmps3
  go_wp2_with (refine wpList_load_mid rfl 26 _ rfl (w.heap.size + 1) 0 rfl M _ (rg0 _ _) Tryz.underlying26 rfl il ?_)
  refine calls_world (fun W => (Below w.heap.size w W ∧ Mds W ∧ ShT W ∧ Cols W) ∧ Hold W w.heap.size key ∧ W.rangeAt (w.heap.size + 1) 0 M ∧ W.heap.size = w.heap.size + 1 + 1) (NC _ _) ?_
  clear NC rg0 hm ht hc
  rintro W ⟨⟨B, hm, ht, hc⟩, hK, hD, hsz⟩
  refine (SG.out W hm ht hc).mono ?_
  rintro e w2 ⟨rfl, hb⟩
  have sz2 := hb.size
  have G2 : ∀ z, GnZ w (w2.alloc (.cells #[.int .u64 (l0 x.r), .int .u64 (l1 x.r), .int .u64 (l2 x.r), .int .u64 (l3 x.r), .int .u64 (l0 x.s), .int .u64 (l1 x.s), .int .u64 (l2 x.s), .int .u64 (l3 x.s), .bool x.o] z)) key M w2.heap.size x := fun z => by
    have b := hb.trans ((BA.out w2 (.cells #[.int .u64 (l0 x.r), .int .u64 (l1 x.r), .int .u64 (l2 x.r), .int .u64 (l3 x.r), .int .u64 (l0 x.s), .int .u64 (l1 x.s), .int .u64 (l2 x.s), .int .u64 (l3 x.s), .bool x.o] z)).mono hb.size)
    exact ⟨B.trans (b.mono B.size), hm.keep b, ht.keep b, hc.keep b, hK.keep b, rangeZ hD b, Pnt.new rfl, by omega⟩
  have gk := fun z => (G2 z).key.cells
  clear hb B hm ht hc hK hD hsz sz2
  clear W
  go_wp2_with fail
  refine calls_world (fun W => GnZ w W key M w2.heap.size x) (G2 _) ?_
  clear G2 gk
  generalize w2.heap.size = bs at *
  rintro W HW
  refine (LF.out W HW.mds).mono ?_
  rintro e w3 ⟨rfl, hb⟩
  have H3 := HW.keep hb
  clear hb HW LF
  clear W w2
  cases fk with
  | false =>
    obtain rfl := HX.out.2.1 rfl
    have gS := H3.sig.cells
    have B := H3.below
    clear H3
    have EQz := es_same' (r := 0) (s := 0) (od := false) zeroN zeroN
    obtain ⟨z0, z1, z2, z3⟩ := zero_limbs
    simp only [z0, z1, z2, z3] at EQz gS
    clear EQ SG PN PS RE RC MG EP HX il BA
    dsimp only
    go_wp2
    simp [bodyPost, results, Tryz.results3]
    exact B
  | true =>
    have HR : Hid (okZ2 R = x) := HX.out.1 rfl
    have MG' : Hid (∀ W, Mds W → Cols W → Calls Tryz.prog 10 #[.agg #[.int .u64 (l0 key), .int .u64 (l1 key), .int .u64 (l2 key), .int .u64 (l3 key)]] W fun e w' => e = .returned (.agg #[.int .u64 (l0 px), .int .u64 (l1 px), .int .u64 (l2 px), .int .u64 (l3 px), .int .u64 (l0 py), .int .u64 (l1 py), .int .u64 (l2 py), .int .u64 (l3 py), .bool false]) ∧ Below W.heap.size W w') := MG.out rfl
    have EP' := EP.out rfl
    have RC' : Hid (∀ (i : Nat), nf i = 0 → (R i).e = 0 → ∀ W, Mds W → Cols W → Calls Tryz.prog 9 #[.agg M.toArray, .agg #[.int .u64 (l0 (R i).r), .int .u64 (l1 (R i).r), .int .u64 (l2 (R i).r), .int .u64 (l3 (R i).r), .int .u64 (l0 (R i).s), .int .u64 (l1 (R i).s), .int .u64 (l2 (R i).s), .int .u64 (l3 (R i).s), .bool (R i).o]] W fun e w' => e = .returned (.tuple #[.agg #[.int .u64 (l0 px), .int .u64 (l1 px), .int .u64 (l2 px), .int .u64 (l3 px), .int .u64 (l0 py), .int .u64 (l1 py), .int .u64 (l2 py), .int .u64 (l3 py), .bool false], .int .i64 0]) ∧ Below W.heap.size W w') := fun i => RC.out i rfl
    clear HX MG EP RC
    have GE : Hid (w.heap.size + 1 < bs) := H3.ge
    go_wp2_with fail
    go_loopg [7] 64 (fun k iv wr => ∃ i : Nat, k = 64 - i ∧ i ≤ 64 ∧ iv = .int .i64 (i : Int) ∧ fsZ R i = none ∧ GnZ w wr key M bs x)
    case atStart => exact ⟨0, rfl, Nat.zero_le _, rfl, rfl, H3⟩
    case round =>
      clear H3
      obtain ⟨i, hk, hi, rfl, hp, hS⟩ := hrel
      have HK : Hid (gk = 64 - i) := hk
      have HP : Hid (fsZ R i = none ∧ GnZ w wr key M bs x) := ⟨hp, hS⟩
      clear hk hp hS
      by_cases h8 : i = 64
      · subst h8
        have ex : x = ⟨0, 0, false, 65⟩ := by rw [← HR.out]; exact okZ2_none HP.out.1
        have B := HP.out.2.below
        clear EQ SG PN PS RE RC' MG' EP' il HP
        subst ex
        go_wp2
        simp [bodyPost, results, Tryz.results3]
        exact B
      · have hi' : (i : Int) ≤ 63 := by omega
        have C1 := PN.out i
        have C2 := PS.out i
        have C4 := RC'.out i
        have H1 : Hid (∀ y, y = R i → y.e = 0 → okZ2 R = y) := fun y e h => by rw [e] at h ⊢; exact okZ2_some (fsZ_here HP.out.1 h) (by omega)
        have H2 : Hid ((R i).e ≠ 0 → fsZ R (i + 1) = none) := fun h => fsZ_not HP.out.1 h
        have H4 : Hid (nf i ≠ 0 → (R i).e ≠ 0) := RE.out i
        obtain ⟨y, ey⟩ : ∃ y, y = R i := ⟨_, rfl⟩
        rw [← ey] at C2 H2 H4 C4
        replace H1 : Hid (y.e = 0 → okZ2 R = y) := H1.out y ey
        clear ey
        obtain ⟨v, ev⟩ : ∃ v, v = nv i := ⟨_, rfl⟩
        obtain ⟨f, ef⟩ : ∃ f, f = nf i := ⟨_, rfl⟩
        rw [← ev, ← ef] at C1 C2
        rw [← ef] at H4 C4
        clear ev ef
        have gk1 := HP.out.2.key.cells
        have rg := HP.out.2.dig
        go_wp2_with (refine wpList_load_mid rfl 26 _ rfl (w.heap.size + 1) 0 rfl M _ rg Tryz.underlying26 rfl il ?_)
        refine (C1 wr HP.out.2.mds HP.out.2.tab).mono ?_
        rintro e w4 ⟨rfl, hb⟩
        have S3 := HP.out.2.keep hb
        clear hb C1 gk1 rg
        by_cases hf : f = 0
        · subst hf
          have C3 : Hid (∀ W, Mds W → Cols W → Calls Tryz.prog 8 #[.agg #[.int .u64 (l0 key), .int .u64 (l1 key), .int .u64 (l2 key), .int .u64 (l3 key)], .agg #[.int .u64 (l0 v), .int .u64 (l1 v), .int .u64 (l2 v), .int .u64 (l3 v)], .agg M.toArray] W fun e w' => e = .returned (.tuple #[.agg #[.int .u64 (l0 y.r), .int .u64 (l1 y.r), .int .u64 (l2 y.r), .int .u64 (l3 y.r), .int .u64 (l0 y.s), .int .u64 (l1 y.s), .int .u64 (l2 y.s), .int .u64 (l3 y.s), .bool y.o], .int .i64 y.e]) ∧ Below W.heap.size W w') := C2 rfl
          have C5 := C4 rfl
          have gk1 := fun o => (S3.keep (BA.out _ o)).key.cells
          have gk0 := S3.key.cells
          have rg := fun o => (S3.keep (BA.out _ o)).dig
          have nbk : w.heap.size ≠ w4.heap.size := by have := World.block_lt_of_cell? w4 _ S3.key.1; simp only at this; omega
          have HS : Hid (GnZ w w4 key M bs x) := S3
          clear S3 C2 H4 C4
          go_wp2_with (refine wpList_load_mid rfl 26 _ rfl (w.heap.size + 1) 0 rfl M _ (rg _) Tryz.underlying26 rfl il ?_)
          refine calls_world (fun W => Below w4.heap.size w4 W) (BA.out _ _) ?_
          rintro W5 B5
          have S5 := HS.out.keep B5
          refine (C3.out W5 S5.mds S5.col).mono ?_
          rintro e w6 ⟨rfl, hb⟩
          have S6 := S5.keep hb
          clear hb S5 B5 C3 gk1 gk0 rg nbk HS
          clear W5
          by_cases he : y.e = 0
          · have ex : x = y := by rw [← HR.out]; exact H1.out he
            subst ex
            have C6 := C5 he
            have gS := fun o => (S6.sig.alloc o).cells
            have gS0 := S6.sig.cells
            have rg := fun o => (S6.keep (BA.out _ o)).dig
            have ls := S6.sig.lt
            have nbs : bs ≠ w6.heap.size := by omega
            have G6 : Hid (GnZ w w6 key M bs x) := S6
            clear S6 C5 H1 H2 HP
            go_wp2_with (refine wpList_load_mid rfl 26 _ rfl (w.heap.size + 1) 0 rfl M _ (rg _) Tryz.underlying26 rfl il ?_)
            refine calls_world (fun W => Below w6.heap.size w6 W ∧ Pnt W w6.heap.size x.r x.s x.o) ⟨BA.out _ _, Pnt.new rfl⟩ ?_
            rintro W7 ⟨B7, hT7⟩
            have G7 := G6.out.keep B7
            refine (C6 W7 G7.mds G7.col).mono ?_
            rintro e w8 ⟨rfl, hb⟩
            have G8 := G7.keep hb
            have hT8 := hT7.keep hb
            have lt8 : w6.heap.size < w8.heap.size := hT8.lt
            clear hb G7 hT7 B7 G6 C6 gS gS0 rg nbs ls
            clear W7
            generalize w6.heap.size = bt at *
            clear w6
            have gk1 := fun o => (G8.keep (BA.out _ o)).key.cells
            have rg := fun o => (G8.keep (BA.out _ o)).dig
            have H8 : Hid (GnZ w w8 key M bs x ∧ Pnt w8 bt x.r x.s x.o) := ⟨G8, hT8⟩
            clear G8 hT8
            go_wp2_with (refine wpList_load_mid rfl 26 _ rfl (w.heap.size + 1) 0 rfl M _ (rg _) Tryz.underlying26 rfl il ?_)
            refine calls_world (fun W => Below w8.heap.size w8 W ∧ Pnt W w8.heap.size px py false) ⟨BA.out _ _, Pnt.new rfl⟩ ?_
            rintro W9 ⟨B9, hQ9⟩
            have G9 := H8.out.1.keep B9
            have hT9 := H8.out.2.keep B9
            refine (SG.out W9 G9.mds G9.tab G9.col).mono ?_
            rintro e wa ⟨rfl, hb⟩
            have Ga := G9.keep hb
            have hTa := hT9.keep hb
            have hQa := hQ9.keep hb
            have lqa := hQa.lt
            have lta := hTa.lt
            have lsa := Ga.sig.lt
            clear hb G9 hT9 hQ9 B9 H8 gk1 rg SG il
            clear W9
            generalize w8.heap.size = bq at *
            clear w8
            go_wp2_with fail
            refine wp_world (fun W => GnZ w W key M bs x ∧ Pnt W bt x.r x.s x.o ∧ Pnt W bq px py false ∧ Pnt W wa.heap.size x.r x.s x.o) ⟨Ga.keep (BA.out _ _), hTa.keep (BA.out _ _), hQa.keep (BA.out _ _), Pnt.new rfl⟩ ?_
            generalize wa.heap.size = bw at *
            clear Ga hTa hQa lqa lta lsa
            clear wa
            rintro Wb ⟨Gb, hT, hQ, hN⟩
            have gS := Gb.sig.grown
            have gT := hT.grown
            have gQ := hQ.grown
            have gN := hN.grown
            have gK : ∀ d os, (grow (redrawn Wb d) os).cell? ⟨w.heap.size, 0, none⟩ = some (.int .u64 (l0 key)) ∧ (grow (redrawn Wb d) os).cell? ⟨w.heap.size, 1, none⟩ = some (.int .u64 (l1 key)) ∧ (grow (redrawn Wb d) os).cell? ⟨w.heap.size, 2, none⟩ = some (.int .u64 (l2 key)) ∧ (grow (redrawn Wb d) os).cell? ⟨w.heap.size, 3, none⟩ = some (.int .u64 (l3 key)) := fun d os => (Gb.key.keep (below_regrown Wb d os)).cells
            have hDg : ∀ d os, Mds (grow (redrawn Wb d) os) := fun d os => Gb.mds.keep (below_regrown Wb d os)
            have hOg : ∀ d os, Cols (grow (redrawn Wb d) os) := fun d os => Gb.col.keep (below_regrown Wb d os)
            have HB : Hid (Below w.heap.size w Wb) := Gb.below
            clear Gb hT hQ hN
            refine wp_region_quiet_below (by kernel_rfl) (by kernel_rfl) ?_
            repeat
              first
                | go_big_quiet_skip
                | (go_big_quiet_want; go_big_quiet_op; go_big_quiet_on)
                | (go_big_quiet_want
                   go_big_quiet_op
                   apply Exists.intro
                   refine ⟨fun p => ?_, ?_⟩
                   · (go_at_call 10; with_reducible exact Calls.regrown_of (MG'.out _ (hDg p.d p.os) (hOg p.d p.os)))
                   go_big_quiet_on)
            refine wpQuiet_nil ?_
            rintro wz ⟨q, rfl⟩
            have hb := below_regrown Wb q.d q.os
            have BZ := HB.out.trans (hb.mono HB.out.size)
            generalize grow (redrawn Wb q.d) q.os = wz at *
            clear hb gS gT gQ gN gK hDg hOg EQ EP'
            go_wp2
            simp [bodyPost, results, Tryz.results3]
            exact BZ
          · have H3 : Hid (fsZ R (i + 1) = none) := H2.out he
            have he1 : (y.e == 0) = false := by simpa using he
            have HF : Hid (GnZ w w6 key M bs x) := S6
            clear S6 H1 H2 C5
            generalize y.e = f at *
            go_wp2
            go_roundg (64 - (i + 1))
            case measure => have := HK.out; omega
            case rel => exact ⟨i + 1, rfl, by omega, by go_num, H3.out, HF.out.keep (BA.out _ _)⟩
        · have H3 : Hid (fsZ R (i + 1) = none) := H2.out (H4.out hf)
          have he1 : (f == 0) = false := by simpa using hf
          have he2 : (f != 0) = true := by simpa using hf
          have HF : Hid (GnZ w w4 key M bs x) := S3
          clear S3 H1 H2 C2 H4 C4
          go_wp2
          go_roundg (64 - (i + 1))
          case measure => have := HK.out; omega
          case rel => exact ⟨i + 1, rfl, by omega, by go_num, H3.out, HF.out.keep (BA.out _ _)⟩
theorem genuine_any {key : Int} {A : List Int} (hk : Num key) (hA : Byts A) (hl : A.length = 32) (w : World) (hm : Mds w) (ht : ShT w) (hc : Cols w) :
    Calls Tryz.prog 3 #[.agg #[.int .u64 (l0 key), .int .u64 (l1 key), .int .u64 (l2 key), .int .u64 (l3 key)], hashV A] w fun e w' => e = .returned (.bool true) ∧ Below w.heap.size w w' := by
  have hM : (A.map fun z => Value.int .u8 z).length = 32 := by rw [List.length_map]; exact hl
  obtain ⟨px, py, hp⟩ : ∃ px py : Int, fitN key = true → Vd px py false ∧ ptOf px py false = EC.smul key.toNat EC.gJ.pt := by
    cases hf : fitN key with
    | false => exact ⟨0, 0, fun h => by cases h⟩
    | true =>
      obtain ⟨x, y, h⟩ := key_there hk hf
      exact ⟨x, y, fun _ => h⟩
  exact genuine_walk (R := sgZ key A) (nv := fun i => nonV key A i) (nf := fun i => nonE key A i) (x := sigZ key A) (px := px) (py := py) (fk := fitN key) hM (fun h => by unfold sigZ; rw [if_pos h]) (fun h => by unfold sigZ; rw [h]; rfl) (sigZ_num key A)
    (fun w hm ht hc => sign_any hk hA hl w hm ht hc) (fun w hm => (lfit_any hk).out w hm) (fun i W hm ht => nonce_any hk hA hl W hm ht) (fun i h W hm hc => by rw [sgZ_ok h]; exact sw_any hk (nonV_num _ _ _) hA hl W hm hc) (fun i h => by rw [sgZ_err h]; exact h)
    (fun i hf h he W hm hc => by rw [sgZ_ok h] at he ⊢; exact rec_back hk (nonV_num _ _ _) hl hA hf he (hp hf).1 (hp hf).2 W hm hc)
    (fun hf W hm hc => cmulg_any hk (hp hf).1 (hp hf).2 W hm hc) (fun hf w => eq_pt_self (hp hf).1 w) w hm ht hc
end Go.Proofs.YtncpjgpioajbeaaGreatDoor

import Derived.Test.YtiebnlahhmngcaaGreatDoorRows
import Derived.WalkKit
import Derived.Test.YtiebnlahhmngcaaGreatDoorAdPt
import Derived.Test.YtiebnlahhmngcaaGreatDoorAdLast
import Derived.Test.YtiebnlahhmngcaaGreatDoorAdKc
import Derived.Test.YtiebnlahhmngcaaGreatDoorCBkC
import Derived.Test.YtiebnlahhmngcaaGreatDoorPut
import Derived.Test.YtiebnlahhmngcaaGreatDoorFBin
import Derived.Test.YtiebnlahhmngcaaGreatDoorCBlend
/- The statements of a function from the n-th on, as a piece of their own. -/
namespace Go.Proofs.YtiebnlahhmngcaaGreatDoor
open Go.RowKit

/-- The code behind the first n statements. -/
def nxO : Nat → Option Code → Option Code
  | 0, c => c
  | n + 1, some (.seq _ b) => nxO n (some b)
  | _ + 1, _ => none
/-- What holds behind those statements. -/
def WpFrom (P : Program) (f : Func) (n : Nat) (Q : Exit → Act → World → Prop) (a : Act) (w : World) : Prop := ∀ c, nxO n f.body = some c → c.wp P Q a w
theorem WpFrom.intro {P : Program} {f : Func} {n : Nat} {Q : Exit → Act → World → Prop} {a : Act} {w : World} {c : Code} (h : nxO n f.body = some c) (k : c.wp P Q a w) : WpFrom P f n Q a w := fun c' h' => by
  rw [h] at h'
  cases h'
  exact k
theorem WpFrom.out {P : Program} {f : Func} {n : Nat} {Q : Exit → Act → World → Prop} {a : Act} {w : World} {c : Code} (k : WpFrom P f n Q a w) (h : nxO n f.body = some c) : c.wp P Q a w := k c h
end Go.Proofs.YtiebnlahhmngcaaGreatDoor

/- Layer 9: what AddressMade asks of the program: the last twenty bytes, keys, points. -/
namespace Go.Proofs.YtiebnlahhmngcaaGreatDoor
open Go.RowKit Go.Sort
set_option maxRecDepth 100000 in
set_option maxHeartbeats 4000000 in
theorem mlast_any {A : List Int} {M : List Value} (hA : A.length = 32) (eM : Hid (M = A.map (Value.int .u8))) (w : World) :
    Calls Tryz.prog 10 #[.agg M.toArray] w fun e w' => e = .returned (.agg ((A.drop 12).map (Value.int .u8)).toArray) ∧ Below w.heap.size w w' := by
  have NN : Hid (∀ t, Bts (w.alloc (.cells M.toArray t)) w.heap.size A) := fun t => by rw [eM.out]; exact Bts.new A t rfl
  clear eM
  go_enter Tryz.func10, Tryz.ntmps10
  go_wp2_with fail
  refine wp_world (fun V => Below w.heap.size w V ∧ Bts V (w.heap.size + 1) (List.replicate 20 0) ∧ Bts V w.heap.size A ∧ Bts V (w.heap.size + 1 + 1) (List.replicate 20 0)) ⟨by repeat (first | with_reducible exact Below.refl _ _ | with_reducible refine Below.alloc ?_ (by first | omega | (simp; done) | (simp; omega)) _), (Bts.new (List.replicate 20 0) _ (by simp)).alloc (by simp) _, ((NN.out _).alloc (by rw [hA]; decide) _).alloc (by rw [hA]; decide) _, Bts.new (List.replicate 20 0) _ (by simp)⟩ ?_
  rintro V ⟨B, hR, hH, hN⟩
  have c1 : w.heap.size + 1 + 1 ≠ w.heap.size := by omega
  have c2 : w.heap.size + 1 + 1 ≠ w.heap.size + 1 := by omega
  have o1 : w.heap.size ≤ w.heap.size + 1 + 1 := by omega
  have o2 : w.heap.size ≤ w.heap.size + 1 := by omega
  generalize w.heap.size + 1 + 1 = ba at *
  generalize w.heap.size + 1 = br at *
  clear NN
  have AA : Hid (A.length = 32) := hA
  go_loopg [4] 20 (fun k iv wr => ∃ (i : Nat) (L : List Int), k = 20 - i ∧ i ≤ 20 ∧ iv = .int .i64 i ∧ L.length = 20 ∧ (∀ t, t < i → L.getD t 0 = A.getD (12 + t) 0) ∧ Below w.heap.size w wr ∧ Bts wr br (List.replicate 20 0) ∧ Bts wr w.heap.size A ∧ Bts wr ba L)
  case atStart => exact ⟨0, _, rfl, by decide, rfl, by simp, fun t h => absurd h (Nat.not_lt_zero _), B, hR, hH, hN⟩
  case round =>
    clear B hR hH hN
    obtain ⟨i, L, hk, hi, rfl, hL, ev, B, hR, hH, hN⟩ := hrel
    have EV : Hid (∀ t, t < i → L.getD t 0 = A.getD (12 + t) 0) := ev
    have HK : Hid (gk = 20 - i) := hk
    clear ev hk
    by_cases h8 : i = 20
    · subst h8
      have eL : L = A.drop 12 := extB (by rw [hL, List.length_drop, AA.out]) fun t ht => by rw [EV.out t (by omega)]; simp [List.getD, List.getElem?_drop]
      have EL : Hid (L = A.drop 12) := eL
      have rb := hN.1.range
      have sz : ((L.map (Value.int .u8)).toArray).size = 20 := by simp [hL]
      have tr := hR.there (k := ((L.map (Value.int .u8)).toArray).size) (by rw [sz]; rfl)
      have oc := one_cells L
      clear eL EV hA
      generalize hM : L.map (Value.int .u8) = N at *
      have HM : Hid (N.length = 20) := by rw [← hM, List.length_map]; exact hL
      go_wp2_with (first | refine wpList_load_mid rfl 26 _ rfl ba 0 rfl N _ rb Tryz.underlying26 rfl (by rw [HM.out]; kernel_rfl) ?_ | refine wpList_store_mid rfl 26 _ _ rfl br 0 _ rfl rfl tr (by rw [sz]; kernel_rfl) oc ?_)
      have ld := run_loadVar_mid (P := Tryz.prog) (wr.setCells br 0 N) br 0 26 N _ (World.rangeAt_setCells_same _ _ _ _ (by simpa using tr)) Tryz.underlying26 rfl (by rw [HM.out]; kernel_rfl)
      refine bodyPost_ret (v := .agg N.toArray) ?_ rfl ⟨by rw [← hM, EL.out], below_setCells o2 N 0 wr B⟩
      simp [results, Tryz.results10, Act.put, asAddr, ld]
    · have hi' : (i : Int) < 20 := by omega
      have e1 : (12 + (i : Int)).toNat = 12 + i := by omega
      have gx := hH.1 (12 + i) (by rw [AA.out]; omega)
      have gb := hN.1 i (by omega)
      have fb := hN.2 i (by omega)
      clear hA
      generalize hx : A.getD (12 + i) 0 = x at *
      have HX : Hid (A.getD (12 + i) 0 = x) := hx
      clear hx
      go_wp2
      go_roundg (20 - (i + 1))
      case measure => have := HK.out; omega
      case rel =>
        refine ⟨i + 1, L.set i x, rfl, by omega, by go_num, by rw [List.length_set]; exact hL, fun t h1 => ?_, B.setCell o1 _, hR.other c2 _, hH.other c1 _, hN.set i (by omega) _⟩
        by_cases e : t = i
        · subst e; rw [setB_eq (by omega), HX.out]
        · rw [setB_ne e]; exact EV.out t (by omega)
set_option maxRecDepth 100000 in
theorem iskeyM_yes {x : Int} (CK : Hid (∀ w, Mds w → Calls Tryz.prog 49 #[.agg #[.int .u64 (l0 x), .int .u64 (l1 x), .int .u64 (l2 x), .int .u64 (l3 x), .int .u64 0, .int .u64 0, .int .u64 0, .int .u64 0, .bool false]] w fun e w' => e = .returned (.int .i64 62) ∧ Below w.heap.size w w')) (w : World) (hm : Mds w) :
    Calls Tryz.prog 28 #[.agg #[.int .u64 (l0 x), .int .u64 (l1 x), .int .u64 (l2 x), .int .u64 (l3 x)]] w fun e w' => e = .returned (.bool true) ∧ Below w.heap.size w w' := by
  go_enter Tryz.func28, Tryz.ntmps28
  go_wp2_with fail
  refine calls_world (fun W => Below w.heap.size w W ∧ Mds W) ⟨by repeat (first | with_reducible exact Below.refl _ _ | with_reducible refine Below.alloc ?_ (by first | omega | (simp; done) | (simp; omega)) _), hm.alloc _⟩ ?_
  rintro W ⟨B, hD⟩
  with_reducible refine (CK.out _ hD).mono ?_
  rintro e w9 ⟨rfl, hb⟩
  replace B := B.trans (hb.mono B.size)
  clear hb W hD
  go_wp2
  simp [bodyPost, results, Tryz.results28, go_sem]
  exact B
set_option maxRecDepth 100000 in
theorem iskeyM_no {x : Int} (CK : Hid (∀ w, Mds w → Calls Tryz.prog 49 #[.agg #[.int .u64 (l0 x), .int .u64 (l1 x), .int .u64 (l2 x), .int .u64 (l3 x), .int .u64 0, .int .u64 0, .int .u64 0, .int .u64 0, .bool false]] w fun e w' => e = .returned (.int .i64 61) ∧ Below w.heap.size w w')) (w : World) (hm : Mds w) :
    Calls Tryz.prog 28 #[.agg #[.int .u64 (l0 x), .int .u64 (l1 x), .int .u64 (l2 x), .int .u64 (l3 x)]] w fun e w' => e = .returned (.bool false) ∧ Below w.heap.size w w' := by
  go_enter Tryz.func28, Tryz.ntmps28
  go_wp2_with fail
  refine calls_world (fun W => Below w.heap.size w W ∧ Mds W) ⟨by repeat (first | with_reducible exact Below.refl _ _ | with_reducible refine Below.alloc ?_ (by first | omega | (simp; done) | (simp; omega)) _), hm.alloc _⟩ ?_
  rintro W ⟨B, hD⟩
  with_reducible refine (CK.out _ hD).mono ?_
  rintro e w9 ⟨rfl, hb⟩
  replace B := B.trans (hb.mono B.size)
  clear hb W hD
  go_wp2
  simp [bodyPost, results, Tryz.results28, go_sem]
  exact B
set_option maxRecDepth 100000 in
theorem pkeyM_bad {x : Int} {D : List Value} (eD : Hid (D = (List.replicate 20 (0 : Int)).map (Value.int .u8))) (IK : Hid (∀ w, Mds w → Calls Tryz.prog 28 #[.agg #[.int .u64 (l0 x), .int .u64 (l1 x), .int .u64 (l2 x), .int .u64 (l3 x)]] w fun e w' => e = .returned (.bool false) ∧ Below w.heap.size w w')) (w : World) (hm : Mds w) :
    Calls Tryz.prog 15 #[.agg #[.int .u64 (l0 x), .int .u64 (l1 x), .int .u64 (l2 x), .int .u64 (l3 x)]] w fun e w' => e = .returned (.tuple #[.agg D.toArray, .int .i64 60]) ∧ Below w.heap.size w w' := by
  go_enter Tryz.func15, Tryz.ntmps15
  go_wp2_with fail
  refine calls_world (fun W => Below w.heap.size w W ∧ Mds W ∧ Bts W (w.heap.size + 1) (List.replicate 20 0)) ⟨by repeat (first | with_reducible exact Below.refl _ _ | with_reducible refine Below.alloc ?_ (by first | omega | (simp; done) | (simp; omega)) _), (hm.alloc _).alloc _, Bts.new (List.replicate 20 0) _ (by simp)⟩ ?_
  rintro W ⟨B, hM, hR⟩
  with_reducible refine (IK.out _ hM).mono ?_
  rintro e w9 ⟨rfl, hb⟩
  replace B := B.trans (hb.mono B.size)
  replace hR := hR.keep (by simp) hb
  clear hb W hM
  have tr := hR.there (k := ((List.replicate 20 (0 : Int)).map (Value.int .u8)).toArray.size) (by simp)
  have o1 : w.heap.size ≤ w.heap.size + 1 := by omega
  have RR : Hid (Bts w9 (w.heap.size + 1) (List.replicate 20 0)) := hR
  clear hR
  generalize w.heap.size + 1 = br at *
  go_wp2_with ((refine wpList_store_mid rfl 26 _ _ rfl br 0 ((List.replicate 20 (0 : Int)).map (Value.int .u8)).toArray rfl rfl tr (by kernel_rfl) (one_cells _) ?_); (refine wpList_worldA (fun W => Below w.heap.size w W ∧ W.rangeAt br 0 D) (by rw [eD.out]; exact laid_in B o1 (RR.out.there (by simp))) ?_); (rintro W ⟨B', hD⟩))
  have ld := run_loadVar_mid (P := Tryz.prog) W br 0 26 D _ hD Tryz.underlying26 rfl (by rw [eD.out]; kernel_rfl)
  refine bodyPost_ret (v := .tuple #[.agg D.toArray, .int .i64 60]) ?_ rfl ⟨rfl, B'⟩
  simp [results, Tryz.results15, asAddr, ld]
set_option maxRecDepth 100000 in
set_option maxHeartbeats 8000000 in
theorem pkeyM_ok {k x y e0 : Int} {i : Bool} {D : List Value} (kD : D.length = 20) (oc : D.toArray.all (·.oneCell') = true)
    (IK : Hid (∀ w, Mds w → Calls Tryz.prog 28 #[.agg #[.int .u64 (l0 k), .int .u64 (l1 k), .int .u64 (l2 k), .int .u64 (l3 k)]] w fun e w' => e = .returned (.bool true) ∧ Below w.heap.size w w'))
    (MG : Hid (∀ w, Mds w → Cols w → Calls Tryz.prog 14 #[.agg #[.int .u64 (l0 k), .int .u64 (l1 k), .int .u64 (l2 k), .int .u64 (l3 k)]] w fun e w' => e = .returned (.agg #[.int .u64 (l0 x), .int .u64 (l1 x), .int .u64 (l2 x), .int .u64 (l3 x), .int .u64 (l0 y), .int .u64 (l1 y), .int .u64 (l2 y), .int .u64 (l3 y), .bool i]) ∧ Below w.heap.size w w'))
    (OP : Hid (∀ w, Mds w → KtA w → Calls Tryz.prog 16 #[.agg #[.int .u64 (l0 x), .int .u64 (l1 x), .int .u64 (l2 x), .int .u64 (l3 x), .int .u64 (l0 y), .int .u64 (l1 y), .int .u64 (l2 y), .int .u64 (l3 y), .bool i]] w fun e w' => e = .returned (.tuple #[.agg D.toArray, .int .i64 e0]) ∧ Below w.heap.size w w')) (w : World) (hm : Mds w) (hc : Cols w) (hk : KtA w) :
    Calls Tryz.prog 15 #[.agg #[.int .u64 (l0 k), .int .u64 (l1 k), .int .u64 (l2 k), .int .u64 (l3 k)]] w fun e w' => e = .returned (.tuple #[.agg D.toArray, .int .i64 e0]) ∧ Below w.heap.size w w' := by
  have KD : Hid (D.length = 20) := kD
  have sz : D.toArray.size = 20 := by simp [kD]
  clear kD
  go_enter Tryz.func15, Tryz.ntmps15
  go_wp2_with fail
  refine calls_world (fun W => Below w.heap.size w W ∧ Mds W ∧ Cols W ∧ KtA W ∧ Nm W w.heap.size k ∧ Bts W (w.heap.size + 1) (List.replicate 20 0)) ⟨by repeat (first | with_reducible exact Below.refl _ _ | with_reducible refine Below.alloc ?_ (by first | omega | (simp; done) | (simp; omega)) _), (hm.alloc _).alloc _, (hc.alloc _).alloc _, (hk.alloc _).alloc _, (Nm.newb rfl).alloc _, Bts.new (List.replicate 20 0) _ (by simp)⟩ ?_
  rintro W ⟨B, hM, hC, hK, hN, hR⟩
  with_reducible refine (IK.out _ hM).mono ?_
  rintro e w1 ⟨rfl, hb⟩
  replace B := B.trans (hb.mono B.size)
  replace hM := hM.keep hb; replace hC := hC.keep hb; replace hK := hK.keep hb; replace hN := hN.keep hb
  replace hR := hR.keep (by simp) hb
  clear hb W hm hc hk
  have o1 : w.heap.size ≤ w.heap.size + 1 := by omega
  generalize w.heap.size + 1 = br at *
  have gN := hN.cells
  go_wp2_with fail
  refine calls_world (fun W => Below w.heap.size w W ∧ Mds W ∧ Cols W ∧ KtA W ∧ Bts W br (List.replicate 20 0)) ⟨B, hM, hC, hK, hR⟩ ?_
  clear B hM hC hK hN hR gN w1
  rintro W ⟨B, hM, hC, hK, hR⟩
  with_reducible refine (MG.out _ hM hC).mono ?_
  rintro e w1 ⟨rfl, hb⟩
  replace B := B.trans (hb.mono B.size)
  replace hM := hM.keep hb; replace hK := hK.keep hb
  replace hR := hR.keep (by simp) hb
  clear hb W hC
  go_wp2_with fail
  refine calls_world (fun W => Below w.heap.size w W ∧ Mds W ∧ KtA W ∧ Bts W br (List.replicate 20 0)) ⟨B, hM, hK, hR⟩ ?_
  clear B hM hK hR w1
  rintro W ⟨B, hM, hK, hR⟩
  with_reducible refine (OP.out _ hM hK).mono ?_
  rintro e w1 ⟨rfl, hb⟩
  replace B := B.trans (hb.mono B.size)
  replace hR := hR.keep (by simp) hb
  clear hb W hM hK
  have tr := hR.there (k := D.toArray.size) (by rw [sz]; rfl)
  clear hR
  go_wp2_with ((refine wpList_store_mid rfl 26 _ _ rfl br 0 D.toArray rfl rfl tr (by rw [sz]; kernel_rfl) oc ?_); (refine wpList_worldA (fun W => Below w.heap.size w W ∧ W.rangeAt br 0 D) (laid_in B o1 (by simpa using tr)) ?_); (rintro W ⟨B', hD⟩))
  have ld := run_loadVar_mid (P := Tryz.prog) W br 0 26 D _ hD Tryz.underlying26 rfl (by rw [KD.out]; kernel_rfl)
  refine bodyPost_ret (v := .tuple #[.agg D.toArray, .int .i64 e0]) ?_ rfl ⟨rfl, B'⟩
  simp [results, Tryz.results15, asAddr, ld]

def Z20 : List Int := List.replicate 20 0
theorem key_ptM {key : Int} (h0 : 0 < key) (h1 : key < nN) : EC.smul key.toNat EC.gJ.pt ≠ .o := fun e => by
  have := EC.base_g.inj (i := key.toNat) (j := 0) (by rw [EC.nN_is] at h1; omega) (by decide) e
  omega
/-- What Expand answers of a point. -/
def ExM (x y : Int) (L : List Int) : Prop := ∀ w, Mds w → Calls Tryz.prog 17 #[.agg #[.int .u64 (l0 x), .int .u64 (l1 x), .int .u64 (l2 x), .int .u64 (l3 x), .int .u64 (l0 y), .int .u64 (l1 y), .int .u64 (l2 y), .int .u64 (l3 y), .bool false]] w fun e w' => ∃ g cap, e = .returned (.tuple #[.slice (some ⟨g, 0, none⟩) 65 cap, .int .i64 0]) ∧ (∀ i, i < 64 → w'.cell? ⟨g, 1 + i, none⟩ = some (.int .u8 (L.getD i 0))) ∧ 65 ≤ cap ∧ Below w.heap.size w w'
theorem expandM {x y : Int} (hp : Vd x y false) : ExM x y (putL x ++ putL y) := fun w hm => by
  refine (expand_walk (putL_len x) (putL_len y) rfl rfl (fun w hm => chf_walk (con_yes hp) w hm) (fun w => put_any w) (fun w => put_any w) w hm).mono ?_
  rintro e w' ⟨v, rfl, ho, hb⟩
  rcases ho.2 with ⟨e, hx⟩ | ⟨g, cap, cur, e, _, _, hle, _⟩
  · exact absurd hx (by decide)
  · subst e
    refine ⟨g, cap, rfl, fun i hi => ?_, hle, hb⟩
    have h := ho.cellAt (1 + i) (by omega)
    rw [h]
    have hl : (putL x ++ putL y).length = 64 := by rw [List.length_append, putL_len, putL_len]
    rw [List.getElem?_map, show ((4 : Int) :: putL x) ++ putL y = 4 :: (putL x ++ putL y) from rfl, Nat.add_comm 1 i, List.getElem?_cons_succ, List.getElem?_eq_getElem (by omega), List.getD, List.getElem?_eq_getElem (by omega)]
    rfl
/-- What the program tells of a key and of its point. -/
structure KeyM (k x y : Int) (i : Bool) (DA DC : List Int) (fe ge : Int) : Prop where
  la : DA.length = 20
  lc : DC.length = 20
  mg : ∀ w, Mds w → Cols w → Calls Tryz.prog 14 #[.agg #[.int .u64 (l0 k), .int .u64 (l1 k), .int .u64 (l2 k), .int .u64 (l3 k)]] w fun e w' => e = .returned (.agg #[.int .u64 (l0 x), .int .u64 (l1 x), .int .u64 (l2 x), .int .u64 (l3 x), .int .u64 (l0 y), .int .u64 (l1 y), .int .u64 (l2 y), .int .u64 (l3 y), .bool i]) ∧ Below w.heap.size w w'
  ok : ∀ w, Mds w → Cols w → KtC w → Calls Tryz.prog 15 #[.agg #[.int .u64 (l0 k), .int .u64 (l1 k), .int .u64 (l2 k), .int .u64 (l3 k)]] w fun e w' => e = .returned (.tuple #[.agg (DA.map (Value.int .u8)).toArray, .int .i64 fe]) ∧ Below w.heap.size w w'
  op : ∀ w, Mds w → KtC w → Calls Tryz.prog 16 #[.agg #[.int .u64 (l0 x), .int .u64 (l1 x), .int .u64 (l2 x), .int .u64 (l3 x), .int .u64 (l0 y), .int .u64 (l1 y), .int .u64 (l2 y), .int .u64 (l3 y), .bool i]] w fun e w' => e = .returned (.tuple #[.agg (DC.map (Value.int .u8)).toArray, .int .i64 ge]) ∧ Below w.heap.size w w'
  cs : (i = true ∧ fe = 60 ∧ ge = 50 ∧ DA = Z20 ∧ DC = Z20) ∨ (i = false ∧ ge = 0 ∧ ∃ L : List Int, L.length = 64 ∧ Bys L ∧ DC = (kecC L).drop 12 ∧ ExM x y L ∧ (fe = 0 ∧ DA = DC ∨ fe = 60 ∧ DA = Z20))
theorem key_cases {k : Int} (hn : Num k) : ∃ x y i DA DC fe ge, KeyM k x y i DA DC fe ge := by
  obtain ⟨z0, z1, z2, z3⟩ := zero_limbs
  have CK := echeck_any (r := k) (s := 0) (o := false) hn ⟨by decide, by decide⟩
  rw [z0, z1, z2, z3] at CK
  have f0 : fitN 0 = false := by decide
  obtain ⟨x, y, i, hv, ep⟩ := rep_pt (p := EC.smul k.toNat EC.gJ.pt) (EC.smul_on EC.gJ_on k.toNat)
  have MG : ∀ w, Mds w → Cols w → Calls Tryz.prog 14 #[.agg #[.int .u64 (l0 k), .int .u64 (l1 k), .int .u64 (l2 k), .int .u64 (l3 k)]] w fun e w' => e = .returned (.agg #[.int .u64 (l0 x), .int .u64 (l1 x), .int .u64 (l2 x), .int .u64 (l3 x), .int .u64 (l0 y), .int .u64 (l1 y), .int .u64 (l2 y), .int .u64 (l3 y), .bool i]) ∧ Below w.heap.size w w' := fun w hm hc => cmulg_any hn hv ep w hm hc
  have zl : Z20.length = 20 := rfl
  have bad : ∀ (hf : fitN k = false) w, Mds w → Cols w → KtC w → Calls Tryz.prog 15 #[.agg #[.int .u64 (l0 k), .int .u64 (l1 k), .int .u64 (l2 k), .int .u64 (l3 k)]] w fun e w' => e = .returned (.tuple #[.agg (Z20.map (Value.int .u8)).toArray, .int .i64 60]) ∧ Below w.heap.size w w' := fun hf w hm _ _ => by
    rw [show chkN k 0 = 61 by unfold chkN; rw [if_pos hf]] at CK
    exact pkeyM_bad rfl (fun w hm => iskeyM_no CK w hm) w hm
  cases i with
  | true =>
    have hf : fitN k = false := by
      cases hf : fitN k with
      | false => rfl
      | true =>
        unfold fitN at hf
        simp at hf
        exact absurd ep.symm (key_ptM (by have := hn.1; omega) hf.2)
    exact ⟨x, y, true, Z20, Z20, 60, 50, zl, zl, MG, bad hf, fun w hm _ => ofp_id rfl (fun w hm => expand_id (fun w hm => chf_id (con_yes hv) w hm) w hm) w hm, .inl ⟨rfl, rfl, rfl, rfl, rfl⟩⟩
  | false =>
    have EX := expandM hv
    have hl : (putL x ++ putL y).length = 64 := by rw [List.length_append, putL_len, putL_len]
    have hb : BysI (putL x ++ putL y) := (putL_bys x).app (putL_bys y)
    have kl : ((kecC (putL x ++ putL y)).drop 12).length = 20 := by rw [List.length_drop, kecC_len]
    have OP : ∀ w, Mds w → KtC w → Calls Tryz.prog 16 #[.agg #[.int .u64 (l0 x), .int .u64 (l1 x), .int .u64 (l2 x), .int .u64 (l3 x), .int .u64 (l0 y), .int .u64 (l1 y), .int .u64 (l2 y), .int .u64 (l3 y), .bool false]] w fun e w' => e = .returned (.tuple #[.agg (((kecC (putL x ++ putL y)).drop 12).map (Value.int .u8)).toArray, .int .i64 0]) ∧ Below w.heap.size w w' := fun w hm hk => ofp_ok hl hb rfl EX w hm hk
    cases hf : fitN k with
    | false => exact ⟨x, y, false, Z20, _, 60, 0, zl, kl, MG, bad hf, OP, .inr ⟨rfl, rfl, _, hl, hb, rfl, EX, .inr ⟨rfl, rfl⟩⟩⟩
    | true =>
      rw [show chkN k 0 = 62 by unfold chkN; rw [if_neg (by rw [hf]; decide), if_pos f0]] at CK
      exact ⟨x, y, false, _, _, 0, 0, kl, kl, MG, fun w hm hc hk => pkeyM_ok (by rw [List.length_map]; exact kl) (one_cells _) (fun w hm => iskeyM_yes CK w hm) MG OP w hm hc hk, OP, .inr ⟨rfl, rfl, _, hl, hb, rfl, EX, .inl ⟨rfl, rfl⟩⟩⟩
end Go.Proofs.YtiebnlahhmngcaaGreatDoor

/- AddressMade: behind the three calls. -/
namespace Go.Proofs.YtiebnlahhmngcaaGreatDoor
open Go.RowKit Go.Sort
theorem wpList_load_midM {P : Program} {ops : Array Oper} {rest : List Oper} {op : Oper} {a : Act} {w : World} {Q : Exit → Act → World → Prop} (hw : Region.wanted op (yielded ops a.tmps) = true) (ty : TypeId) (x : Operand) (ho : op.op = .load ty x)
    (b o : Nat) (hx : a.eval x = .pointer (some ⟨b, o, none⟩)) (cs : List Value) (d : TypeDesc) (hc : w.rangeAt b o cs)
    (hu : P.underlying ty = some d) (hd : d.isRow = true) (hi : (P.info? ty).map (·.size) = some cs.length)
    (h : wpList P ops Q rest (a.put op.dst (.agg cs.toArray)) w) : wpList P ops Q (op :: rest) a w := by
  unfold wpList
  rw [if_pos hw]
  exact .inl (wp_load_mid ty x ho b o hx cs d hc hu hd hi h)
set_option maxRecDepth 100000 in
set_option maxHeartbeats 8000000 in
theorem md8a {w W : World} {bp ba bc : Nat} {Z : List Value} (eZ : Hid (Z = Z20.map (Value.int .u8))) (B : Below w.heap.size w W) (hp : W.cell? ⟨bp, 8, none⟩ = some (.bool true)) (ha : W.rangeAt ba 0 Z) (hc : W.rangeAt bc 0 Z) {t0 t1 t2 t3 t4 t5 t6 t7 t8 t9 t10 t11 t12 t13 t19 t20 t21 t22 t23 t24 t25 t26 t27 t28 t29 t30 t31 t32 t33 t34 t35 t36 t37 t38 t39 t40 t41 t42 t43 t44 t45 t46 t47 t48 t49 t50 t51 t52 t53 t54 t55 t56 t57 t58 t59 t60 t61 t62 t63 t64 t65 t66 t67 t68 t69 t70 t71 t72 t73 t74 t75 t76 t77 t78 t79 t80 t81 t82 t83 t84 t85 t86 t87 t88 t89 t90 t91 t92 t93 t94 t95 t96 t97 t98 t99 t100 t101 t102 t103 t104 t105 t106 t107 t108 t109 t110 t111 t112 t113 t114 t115 t116 t117 t118 t119 t120 t121 t122 t123 t124 t125 t126 t127 t128 t129 t130 : Value} :
    WpFrom Tryz.prog Tryz.f3 8 (bodyPost Tryz.prog Tryz.f3 fun e w' => e = .returned (.bool true) ∧ Below w.heap.size w w') { tmps := #[t0, t1, t2, t3, t4, t5, t6, t7, t8, t9, t10, t11, t12, t13, .pointer (some ⟨bp, 0, none⟩), .pointer (some ⟨ba, 0, none⟩), .int .i64 60, .pointer (some ⟨bc, 0, none⟩), .int .i64 50, t19, t20, t21, t22, t23, t24, t25, t26, t27, t28, t29, t30, t31, t32, t33, t34, t35, t36, t37, t38, t39, t40, t41, t42, t43, t44, t45, t46, t47, t48, t49, t50, t51, t52, t53, t54, t55, t56, t57, t58, t59, t60, t61, t62, t63, t64, t65, t66, t67, t68, t69, t70, t71, t72, t73, t74, t75, t76, t77, t78, t79, t80, t81, t82, t83, t84, t85, t86, t87, t88, t89, t90, t91, t92, t93, t94, t95, t96, t97, t98, t99, t100, t101, t102, t103, t104, t105, t106, t107, t108, t109, t110, t111, t112, t113, t114, t115, t116, t117, t118, t119, t120, t121, t122, t123, t124, t125, t126, t127, t128, t129, t130], defers := [] } W := by
  have kZ : Hid (Z.length = 20) := by rw [eZ.out]; rfl
  have EZ : Value.agg Z.toArray = Value.agg #[.int .u8 0, .int .u8 0, .int .u8 0, .int .u8 0, .int .u8 0, .int .u8 0, .int .u8 0, .int .u8 0, .int .u8 0, .int .u8 0, .int .u8 0, .int .u8 0, .int .u8 0, .int .u8 0, .int .u8 0, .int .u8 0, .int .u8 0, .int .u8 0, .int .u8 0, .int .u8 0] := by rw [eZ.out]; rfl
  have EQ : ∀ w, (Op.equalIn 10000 26 (.agg Z.toArray) (.agg #[.int .u8 0, .int .u8 0, .int .u8 0, .int .u8 0, .int .u8 0, .int .u8 0, .int .u8 0, .int .u8 0, .int .u8 0, .int .u8 0, .int .u8 0, .int .u8 0, .int .u8 0, .int .u8 0, .int .u8 0, .int .u8 0, .int .u8 0, .int .u8 0, .int .u8 0, .int .u8 0])).run Tryz.prog w = .ok true w := fun w => by rw [← EZ, eZ.out, eq_adrJ rfl rfl w]; simp
  clear EZ
  clear eZ
  refine WpFrom.intro rfl ?_
  go_wp2_with (first | refine wpList_load_midM (by rfl) 26 _ rfl ba 0 rfl Z _ ha Tryz.underlying26 rfl (by rw [kZ.out]; kernel_rfl) ?_ | refine wpList_load_midM (by rfl) 26 _ rfl bc 0 rfl Z _ hc Tryz.underlying26 rfl (by rw [kZ.out]; kernel_rfl) ?_)
  simp [bodyPost, results, Tryz.results3, go_sem]
  exact B
theorem ptsC_oneM {W : World} {p : PtC} {v : Value} {ty : TypeId} (ev : v = p.val) (h : p.ok W) : PtsC (W.alloc (.cells #[v] ty)).drew W.heap.size 0 [p] := by subst ev; exact ptsC_one h
theorem yieldsM_mid {P : Program} {a : Act} {op : Oper} (ty : TypeId) (x : Operand) (ho : op.op = .load ty x) (b o : Nat) (hx : a.eval x = .pointer (some ⟨b, o, none⟩)) (cs : List Value) (d : TypeDesc) {w : World} (hc : w.rangeAt b o cs)
    (hu : P.underlying ty = some d) (hd : d.isRow = true) (hi : (P.info? ty).map (·.size) = some cs.length) : (execOp a.eval op).run P w = .ok (.value (.agg cs.toArray)) w := by
  unfold execOp
  simp only [ho, hx, Instr.loadAt, Instr.sureAddr, Sem.run_bind, Sem.run_pure, Result.andThen_ok, run_loadVar_mid w b o ty cs d hc hu hd hi]
set_option maxRecDepth 100000 in
set_option maxHeartbeats 16000000 in
theorem md8b {w W : World} {bp ba bc : Nat} {x y fe : Int} {L : List Int} {MA MC Z : List Value} (eZ : Hid (Z = Z20.map (Value.int .u8))) (hL : L.length = 64) (hy : Bys L) (eC : Hid (MC = ((kecC L).drop 12).map (Value.int .u8))) (EX : Hid (ExM x y L)) (TB : Hid (∀ V, Below w.heap.size w V → Mds V ∧ KtC V)) (HF : Hid (fe = 0 ∧ MA = MC ∨ fe = 60 ∧ MA = Z))
    (B : Below w.heap.size w W) (hp : Pnt W bp x y false) (ha : W.rangeAt ba 0 MA) (la : ba < W.heap.size) (hc : W.rangeAt bc 0 MC) (lc : bc < W.heap.size) {t0 t1 t2 t3 t4 t5 t6 t7 t8 t9 t10 t11 t12 t13 t19 t20 t21 t22 t23 t24 t25 t26 t27 t28 t29 t30 t31 t32 t33 t34 t35 t36 t37 t38 t39 t40 t41 t42 t43 t44 t45 t46 t47 t48 t49 t50 t51 t52 t53 t54 t55 t56 t57 t58 t59 t60 t61 t62 t63 t64 t65 t66 t67 t68 t69 t70 t71 t72 t73 t74 t75 t76 t77 t78 t79 t80 t81 t82 t83 t84 t85 t86 t87 t88 t89 t90 t91 t92 t93 t94 t95 t96 t97 t98 t99 t100 t101 t102 t103 t104 t105 t106 t107 t108 t109 t110 t111 t112 t113 t114 t115 t116 t117 t118 t119 t120 t121 t122 t123 t124 t125 t126 t127 t128 t129 t130 : Value} :
    WpFrom Tryz.prog Tryz.f3 8 (bodyPost Tryz.prog Tryz.f3 fun e w' => e = .returned (.bool true) ∧ Below w.heap.size w w') { tmps := #[t0, t1, t2, t3, t4, t5, t6, t7, t8, t9, t10, t11, t12, t13, .pointer (some ⟨bp, 0, none⟩), .pointer (some ⟨ba, 0, none⟩), .int .i64 fe, .pointer (some ⟨bc, 0, none⟩), .int .i64 0, t19, t20, t21, t22, t23, t24, t25, t26, t27, t28, t29, t30, t31, t32, t33, t34, t35, t36, t37, t38, t39, t40, t41, t42, t43, t44, t45, t46, t47, t48, t49, t50, t51, t52, t53, t54, t55, t56, t57, t58, t59, t60, t61, t62, t63, t64, t65, t66, t67, t68, t69, t70, t71, t72, t73, t74, t75, t76, t77, t78, t79, t80, t81, t82, t83, t84, t85, t86, t87, t88, t89, t90, t91, t92, t93, t94, t95, t96, t97, t98, t99, t100, t101, t102, t103, t104, t105, t106, t107, t108, t109, t110, t111, t112, t113, t114, t115, t116, t117, t118, t119, t120, t121, t122, t123, t124, t125, t126, t127, t128, t129, t130], defers := [] } W := by
  have kZ : Hid (Z.length = 20) := by rw [eZ.out]; rfl
  have kC0 : MC.length = 20 := by rw [eC.out, List.length_map, List.length_drop, kecC_len]
  have kC : Hid (MC.length = 20) := kC0
  have EZ : Value.agg Z.toArray = Value.agg #[.int .u8 0, .int .u8 0, .int .u8 0, .int .u8 0, .int .u8 0, .int .u8 0, .int .u8 0, .int .u8 0, .int .u8 0, .int .u8 0, .int .u8 0, .int .u8 0, .int .u8 0, .int .u8 0, .int .u8 0, .int .u8 0, .int .u8 0, .int .u8 0, .int .u8 0, .int .u8 0] := by rw [eZ.out]; rfl
  have EQZ : ∀ w, (Op.equalIn 10000 26 (.agg Z.toArray) (.agg #[.int .u8 0, .int .u8 0, .int .u8 0, .int .u8 0, .int .u8 0, .int .u8 0, .int .u8 0, .int .u8 0, .int .u8 0, .int .u8 0, .int .u8 0, .int .u8 0, .int .u8 0, .int .u8 0, .int .u8 0, .int .u8 0, .int .u8 0, .int .u8 0, .int .u8 0, .int .u8 0])).run Tryz.prog w = .ok true w := fun w => by rw [← EZ, eZ.out, eq_adrJ rfl rfl w]; simp
  have kl : ((kecC L).drop 12).length = 20 := by rw [List.length_drop, kecC_len]
  have EQC : ∀ w, (Op.equalIn 10000 26 (.agg MC.toArray) (.agg MC.toArray)).run Tryz.prog w = .ok true w := fun w => by rw [eC.out, eq_adrJ kl kl w]; simp
  obtain ⟨M5, e5⟩ : ∃ M5, Hid (M5 = (kecC L).map (Value.int .u8)) := ⟨_, rfl⟩
  have LA : Hid (∀ V, Calls Tryz.prog 10 #[.agg M5.toArray] V fun e w' => e = .returned (.agg MC.toArray) ∧ Below V.heap.size V w') := fun V => by rw [eC.out]; exact mlast_any (kecC_len L) e5 V
  have SU : Hid (∀ V bs g cap, Below w.heap.size w V → 65 ≤ cap → PtsC V bs 0 [⟨some ⟨g, 1, none⟩, g, 1, cap - 1, L⟩] → Calls Tryz.prog 11 #[.slice (some ⟨bs, 0, none⟩) 1 1] V fun e w' => e = .returned (.agg M5.toArray) ∧ Below V.heap.size V w') := fun V bs g cap B hcap h => by
    have h := ksumC (ps := [⟨some ⟨g, 1, none⟩, g, 1, cap - 1, L⟩]) (n := 1) (c := 1) rfl (by rw [allC_one]; show L.length < _; omega) (by show 1 ≤ 1000; decide) (Nat.le_refl 1) V h (TB.out V B).2
    rw [allC_one, ← e5.out] at h; exact h
  have PK : Hid (∀ (V U : World) g cap, Below V.heap.size V U → 65 ≤ cap → (∀ i, i < 64 → V.cell? ⟨g, 1 + i, none⟩ = some (.int .u8 (L.getD i 0))) → PtC.ok U ⟨some ⟨g, 1, none⟩, g, 1, cap - 1, L⟩) := fun V U g cap hb hcap h => ⟨.inr rfl, by show L.length ≤ cap - 1; omega, hy, fun i hi => by have hi' : i < L.length := hi; exact cell_keep hb (h i (by omega))⟩
  have PV : Hid (∀ g cap : Nat, 65 ≤ cap → Value.slice (some ⟨g, 1, none⟩) 64 (cap - 1) = PtC.val ⟨some ⟨g, 1, none⟩, g, 1, cap - 1, L⟩) := fun g cap h => by rw [PtC.val]; show _ = Value.slice _ L.length _; rw [hL]
  clear eZ EZ kl e5 eC hL hy kC0
  have gP := hp.cells
  have XC := EX.out
  refine WpFrom.intro rfl ?_
  go_wp2_with fail
  refine (EX.out W (TB.out W B).1).mono ?_
  rintro e V ⟨g, cap, rfl, hx, hcap, hb⟩
  have BV := B.trans (hb.mono B.size)
  have rc := range_keep hc hb lc
  have ra := range_keep ha hb la
  have lc' : bc < V.heap.size := Nat.lt_of_lt_of_le lc hb.size
  have la' : ba < V.heap.size := Nat.lt_of_lt_of_le la hb.size
  have nc : (65 : Int) ≤ (cap : Int) := by omega
  have CC : Hid (65 ≤ cap) := hcap
  have HX : Hid (∀ i, i < 64 → V.cell? ⟨g, 1 + i, none⟩ = some (.int .u8 (L.getD i 0))) := hx
  have HB : Hid (Below w.heap.size w V) := BV
  clear hb hp ha hc la lc gP XC B hx hcap BV EX
  go_wp2_with fail
  refine wp_region_held_drew (S := fun w' => Below V.heap.size V w') (by kernel_rfl) ((Below.refl _ _).drew) (fun hHeld => ?_)
  refine wpAnyH_takeD (i := 0) (oi := _) (v := .int .i64 0) 95 rfl (by kernel_rfl) (by kernel_rfl) (by kernel_rfl) (by kernel_rfl) (fun _ _ _ h => h) (Or.inl ⟨by kernel_rfl, ?_⟩) (by assumption) ?_
  · intro wq hSw
    have _ := hSw
    go_simp
  simp only [Act.put, List.setIfInBounds_toArray, List.set_cons_succ, List.set_cons_zero]
  refine wpAnyH_takeD (i := 1) (oi := _) (v := .bool false) 96 rfl (by kernel_rfl) (by kernel_rfl) (by kernel_rfl) (by kernel_rfl) (fun _ _ _ h => h) (Or.inl ⟨by kernel_rfl, ?_⟩) (by assumption) ?_
  · intro wq hSw
    have _ := hSw
    go_simp
  simp only [Act.put, List.setIfInBounds_toArray, List.set_cons_succ, List.set_cons_zero]
  refine wpAnyH_takeD (i := 2) (oi := _) (v := .bool false) 97 rfl (by kernel_rfl) (by kernel_rfl) (by kernel_rfl) (by kernel_rfl) (fun _ _ _ h => h) (Or.inl ⟨by kernel_rfl, ?_⟩) (by assumption) ?_
  · intro wq hSw
    have _ := hSw
    go_simp
  simp only [Act.put, List.setIfInBounds_toArray, List.set_cons_succ, List.set_cons_zero]
  refine wpAnyH_takeD (i := 3) (oi := _) (v := .slice (some ⟨g, 0, none⟩) 65 cap) 98 rfl (by kernel_rfl) (by kernel_rfl) (by kernel_rfl) (by kernel_rfl) (fun _ _ _ h => h) (Or.inl ⟨by kernel_rfl, ?_⟩) (by assumption) ?_
  · intro wq hSw
    have _ := hSw
    go_simp
  simp only [Act.put, List.setIfInBounds_toArray, List.set_cons_succ, List.set_cons_zero]
  refine wpAnyH_takeD (i := 4) (oi := _) (v := .int .i64 65) 99 rfl (by kernel_rfl) (by kernel_rfl) (by kernel_rfl) (by kernel_rfl) (fun _ _ _ h => h) (Or.inl ⟨by kernel_rfl, ?_⟩) (by assumption) ?_
  · intro wq hSw
    have _ := hSw
    go_simp
  simp only [Act.put, List.setIfInBounds_toArray, List.set_cons_succ, List.set_cons_zero]
  refine wpAnyH_takeD (i := 5) (oi := _) (v := .bool false) 100 rfl (by kernel_rfl) (by kernel_rfl) (by kernel_rfl) (by kernel_rfl) (fun _ _ _ h => h) (Or.inl ⟨by kernel_rfl, ?_⟩) (by assumption) ?_
  · intro wq hSw
    have _ := hSw
    go_simp
  simp only [Act.put, List.setIfInBounds_toArray, List.set_cons_succ, List.set_cons_zero]
  refine wpAnyH_takeD (i := 6) (oi := _) (v := .bool false) 101 rfl (by kernel_rfl) (by kernel_rfl) (by kernel_rfl) (by kernel_rfl) (fun _ _ _ h => h) (Or.inl ⟨by kernel_rfl, ?_⟩) (by assumption) ?_
  · intro wq hSw
    have _ := hSw
    go_simp
  simp only [Act.put, List.setIfInBounds_toArray, List.set_cons_succ, List.set_cons_zero]
  refine wpAnyH_takeD (i := 7) (oi := _) (v := .bool false) 102 rfl (by kernel_rfl) (by kernel_rfl) (by kernel_rfl) (by kernel_rfl) (fun _ _ _ h => h) (Or.inl ⟨by kernel_rfl, ?_⟩) (by assumption) ?_
  · intro wq hSw
    have _ := hSw
    go_simp
  simp only [Act.put, List.setIfInBounds_toArray, List.set_cons_succ, List.set_cons_zero]
  refine wpAnyH_takeD (i := 8) (oi := _) (v := .int .i64 0) 103 rfl (by kernel_rfl) (by kernel_rfl) (by kernel_rfl) (by kernel_rfl) (fun _ _ _ h => h) (Or.inl ⟨by kernel_rfl, ?_⟩) (by assumption) ?_
  · intro wq hSw
    have _ := hSw
    go_simp
  simp only [Act.put, List.setIfInBounds_toArray, List.set_cons_succ, List.set_cons_zero]
  refine wpAnyH_takeD (i := 9) (oi := _) (v := .bool false) 104 rfl (by kernel_rfl) (by kernel_rfl) (by kernel_rfl) (by kernel_rfl) (fun _ _ _ h => h) (Or.inl ⟨by kernel_rfl, ?_⟩) (by assumption) ?_
  · intro wq hSw
    have _ := hSw
    go_simp
  simp only [Act.put, List.setIfInBounds_toArray, List.set_cons_succ, List.set_cons_zero]
  refine wpAnyH_takeD (i := 10) (oi := _) (v := .bool false) 105 rfl (by kernel_rfl) (by kernel_rfl) (by kernel_rfl) (by kernel_rfl) (fun _ _ _ h => h) (Or.inl ⟨by kernel_rfl, ?_⟩) (by assumption) ?_
  · intro wq hSw
    have _ := hSw
    go_simp
  simp only [Act.put, List.setIfInBounds_toArray, List.set_cons_succ, List.set_cons_zero]
  refine wpAnyH_takeD (i := 11) (oi := _) (v := .bool false) 106 rfl (by kernel_rfl) (by kernel_rfl) (by kernel_rfl) (by kernel_rfl) (fun _ _ _ h => h) (Or.inl ⟨by kernel_rfl, ?_⟩) (by assumption) ?_
  · intro wq hSw
    have _ := hSw
    go_simp
  simp only [Act.put, List.setIfInBounds_toArray, List.set_cons_succ, List.set_cons_zero]
  refine wpAnyH_takeD (i := 12) (oi := _) (v := .agg MC.toArray) 107 rfl (by kernel_rfl) (by kernel_rfl) (by kernel_rfl) (by kernel_rfl) (fun _ _ _ h => h) (Or.inl ⟨by kernel_rfl, ?_⟩) (by assumption) ?_
  · intro wq hSw
    exact yieldsM_mid 26 _ rfl bc 0 rfl MC _ (range_keep rc hSw lc') Tryz.underlying26 rfl (by rw [kC.out]; kernel_rfl)
  simp only [Act.put, List.setIfInBounds_toArray, List.set_cons_succ, List.set_cons_zero]
  refine wpAnyH_takeD (i := 13) (oi := _) (v := .slice (some ⟨g, 0, none⟩) 65 cap) 108 rfl (by kernel_rfl) (by kernel_rfl) (by kernel_rfl) (by kernel_rfl) (fun _ _ _ h => h) (Or.inl ⟨by kernel_rfl, ?_⟩) (by assumption) ?_
  · intro wq hSw
    have _ := hSw
    go_simp
  simp only [Act.put, List.setIfInBounds_toArray, List.set_cons_succ, List.set_cons_zero]
  refine wpAnyH_takeD (i := 14) (oi := _) (v := .slice (some ⟨g, 1, none⟩) 64 (cap - 1)) 109 rfl (by kernel_rfl) (by kernel_rfl) (by kernel_rfl) (by kernel_rfl) (fun _ _ _ h => h) (Or.inl ⟨by kernel_rfl, ?_⟩) (by assumption) ?_
  · intro wq hSw
    have _ := hSw
    (go_simp; omega)
  simp only [Act.put, List.setIfInBounds_toArray, List.set_cons_succ, List.set_cons_zero]
  refine wpAnyH_ready (rs := [15]) (by kernel_rfl) (by simp) ?_
  refine AllReadyH.cons rfl (fun K hK => ?_) AllReadyH.nil
  go_simp
  go_wp2_with fail
  refine kworld (fun U => Below V.heap.size V U ∧ PtsC U V.heap.size 0 [⟨some ⟨g, 1, none⟩, g, 1, cap - 1, L⟩]) ⟨((Below.refl _ _).alloc (Nat.le_refl _) _).drew, ptsC_oneM (PV.out g cap CC.out) (PK.out V V g cap (Below.refl _ _) CC.out HX.out)⟩ ?_
  rintro U ⟨BU, hP⟩
  refine hK.out _ _ BU (fun hHeld => ?_)
  clear hK K hHeld
  have SM : Hid (∀ _ : Nat, Calls Tryz.prog 11 #[.slice (some ⟨V.heap.size, 0, none⟩) 1 1] U fun e w' => e = .returned (.agg M5.toArray) ∧ Below U.heap.size U w') := fun _ => SU.out U _ g cap (HB.out.trans (BU.mono HB.out.size)) CC.out hP
  clear hP SU PK PV HX
  have hHeld := BU
  refine wpAnyH_ready (rs := [16]) (by kernel_rfl) (by simp) ?_
  refine AllReadyH.cons rfl (fun K hK => ?_) AllReadyH.nil
  go_simp
  go_wp2_with (go_at_call 11; refine (SM.out 0).mono ?_; rintro e y16 ⟨rfl, hbx⟩)
  refine hK.out _ _ (hHeld.trans (hbx.mono hHeld.size)) (fun hHeld => ?_)
  clear hK K
  clear hbx
  refine wpAnyH_ready (rs := [17]) (by kernel_rfl) (by simp) ?_
  refine AllReadyH.cons rfl (fun K hK => ?_) AllReadyH.nil
  go_simp
  go_wp2_with (go_at_call 10; refine (LA.out _).mono ?_; rintro e y17 ⟨rfl, hbx⟩)
  refine hK.out _ _ (hHeld.trans (hbx.mono hHeld.size)) (fun hHeld => ?_)
  clear hK K
  clear hbx
  refine wpAnyH_takeD (i := 18) (oi := _) (v := .bool false) 113 rfl (by kernel_rfl) (by kernel_rfl) (by kernel_rfl) (by kernel_rfl) (fun _ _ _ h => h) (Or.inl ⟨by kernel_rfl, ?_⟩) (by assumption) ?_
  · intro wq hSw
    have q := EQC wq
    go_simp
  simp only [Act.put, List.setIfInBounds_toArray, List.set_cons_succ, List.set_cons_zero]
  refine wpAnyH_takeD (i := 19) (oi := _) (v := .bool false) 114 rfl (by kernel_rfl) (by kernel_rfl) (by kernel_rfl) (by kernel_rfl) (fun _ _ _ h => h) (Or.inl ⟨by kernel_rfl, ?_⟩) (by assumption) ?_
  · intro wq hSw
    have _ := hSw
    go_simp
  simp only [Act.put, List.setIfInBounds_toArray, List.set_cons_succ, List.set_cons_zero]
  refine wpAnyH_done (by kernel_rfl) ?_ _
  have rA := range_keep ra hHeld la'
  have rC := range_keep rc hHeld lc'
  have BZ : Hid (Below w.heap.size w _) := HB.out.trans (hHeld.mono HB.out.size)
  clear hHeld BU SM LA ra rc la' lc' HB TB
  rcases HF.out with ⟨rfl, rfl⟩ | ⟨rfl, rfl⟩
  · clear HF
    go_wp2_with (first | refine wpList_load_midM (by rfl) 26 _ rfl ba 0 rfl MA _ rA Tryz.underlying26 rfl (by rw [kC.out]; kernel_rfl) ?_ | refine wpList_load_midM (by rfl) 26 _ rfl bc 0 rfl MA _ rC Tryz.underlying26 rfl (by rw [kC.out]; kernel_rfl) ?_)
    simp [bodyPost, results, Tryz.results3, go_sem]
    exact BZ.out
  · clear HF
    go_wp2_with (first | refine wpList_load_midM (by rfl) 26 _ rfl ba 0 rfl MA _ rA Tryz.underlying26 rfl (by rw [kZ.out]; kernel_rfl) ?_)
    simp [bodyPost, results, Tryz.results3, go_sem]
    exact BZ.out
end Go.Proofs.YtiebnlahhmngcaaGreatDoor

/- AddressMade: the three calls. -/
namespace Go.Proofs.YtiebnlahhmngcaaGreatDoor
open Go.RowKit Go.Sort
set_option maxRecDepth 100000 in
set_option maxHeartbeats 16000000 in
theorem md5 {w W : World} {bk : Nat} {k x y fe ge : Int} {i : Bool} {DA DC : List Int} (KM : Hid (KeyM k x y i DA DC fe ge)) (TB : Hid (∀ V, Below w.heap.size w V → Mds V ∧ Cols V ∧ KtC V)) (B : Below w.heap.size w W) (hk : Nm W bk k) {t0 t1 t2 t3 t4 t6 t7 t8 t9 t10 t11 t12 t13 t14 t15 t16 t17 t18 t19 t20 t21 t22 t23 t24 t25 t26 t27 t28 t29 t30 t31 t32 t33 t34 t35 t36 t37 t38 t39 t40 t41 t42 t43 t44 t45 t46 t47 t48 t49 t50 t51 t52 t53 t54 t55 t56 t57 t58 t59 t60 t61 t62 t63 t64 t65 t66 t67 t68 t69 t70 t71 t72 t73 t74 t75 t76 t77 t78 t79 t80 t81 t82 t83 t84 t85 t86 t87 t88 t89 t90 t91 t92 t93 t94 t95 t96 t97 t98 t99 t100 t101 t102 t103 t104 t105 t106 t107 t108 t109 t110 t111 t112 t113 t114 t115 t116 t117 t118 t119 t120 t121 t122 t123 t124 t125 t126 t127 t128 t129 t130 : Value} :
    WpFrom Tryz.prog Tryz.f3 5 (bodyPost Tryz.prog Tryz.f3 fun e w' => e = .returned (.bool true) ∧ Below w.heap.size w w') { tmps := #[t0, t1, t2, t3, t4, .pointer (some ⟨bk, 0, none⟩), t6, t7, t8, t9, t10, t11, t12, t13, t14, t15, t16, t17, t18, t19, t20, t21, t22, t23, t24, t25, t26, t27, t28, t29, t30, t31, t32, t33, t34, t35, t36, t37, t38, t39, t40, t41, t42, t43, t44, t45, t46, t47, t48, t49, t50, t51, t52, t53, t54, t55, t56, t57, t58, t59, t60, t61, t62, t63, t64, t65, t66, t67, t68, t69, t70, t71, t72, t73, t74, t75, t76, t77, t78, t79, t80, t81, t82, t83, t84, t85, t86, t87, t88, t89, t90, t91, t92, t93, t94, t95, t96, t97, t98, t99, t100, t101, t102, t103, t104, t105, t106, t107, t108, t109, t110, t111, t112, t113, t114, t115, t116, t117, t118, t119, t120, t121, t122, t123, t124, t125, t126, t127, t128, t129, t130], defers := [] } W := by
  obtain ⟨PV, eP⟩ : ∃ PV : List Value, Hid (PV = [.int .u64 (l0 x), .int .u64 (l1 x), .int .u64 (l2 x), .int .u64 (l3 x), .int .u64 (l0 y), .int .u64 (l1 y), .int .u64 (l2 y), .int .u64 (l3 y), .bool i]) := ⟨_, rfl⟩
  obtain ⟨MA, eA⟩ : ∃ MA, Hid (MA = DA.map (Value.int .u8)) := ⟨_, rfl⟩
  obtain ⟨MC, eC⟩ : ∃ MC, Hid (MC = DC.map (Value.int .u8)) := ⟨_, rfl⟩
  have T8 : Hid (∀ (V : World) (bp ba bc : Nat) (t0 t1 t2 t3 t4 t5 t6 t7 t8 t9 t10 t11 t12 t13 t19 t20 t21 t22 t23 t24 t25 t26 t27 t28 t29 t30 t31 t32 t33 t34 t35 t36 t37 t38 t39 t40 t41 t42 t43 t44 t45 t46 t47 t48 t49 t50 t51 t52 t53 t54 t55 t56 t57 t58 t59 t60 t61 t62 t63 t64 t65 t66 t67 t68 t69 t70 t71 t72 t73 t74 t75 t76 t77 t78 t79 t80 t81 t82 t83 t84 t85 t86 t87 t88 t89 t90 t91 t92 t93 t94 t95 t96 t97 t98 t99 t100 t101 t102 t103 t104 t105 t106 t107 t108 t109 t110 t111 t112 t113 t114 t115 t116 t117 t118 t119 t120 t121 t122 t123 t124 t125 t126 t127 t128 t129 t130 : Value), Below w.heap.size w V → V.rangeAt bp 0 PV → V.rangeAt ba 0 MA → ba < V.heap.size → V.rangeAt bc 0 MC → bc < V.heap.size → WpFrom Tryz.prog Tryz.f3 8 (bodyPost Tryz.prog Tryz.f3 fun e w' => e = .returned (.bool true) ∧ Below w.heap.size w w') { tmps := #[t0, t1, t2, t3, t4, t5, t6, t7, t8, t9, t10, t11, t12, t13, .pointer (some ⟨bp, 0, none⟩), .pointer (some ⟨ba, 0, none⟩), .int .i64 fe, .pointer (some ⟨bc, 0, none⟩), .int .i64 ge, t19, t20, t21, t22, t23, t24, t25, t26, t27, t28, t29, t30, t31, t32, t33, t34, t35, t36, t37, t38, t39, t40, t41, t42, t43, t44, t45, t46, t47, t48, t49, t50, t51, t52, t53, t54, t55, t56, t57, t58, t59, t60, t61, t62, t63, t64, t65, t66, t67, t68, t69, t70, t71, t72, t73, t74, t75, t76, t77, t78, t79, t80, t81, t82, t83, t84, t85, t86, t87, t88, t89, t90, t91, t92, t93, t94, t95, t96, t97, t98, t99, t100, t101, t102, t103, t104, t105, t106, t107, t108, t109, t110, t111, t112, t113, t114, t115, t116, t117, t118, t119, t120, t121, t122, t123, t124, t125, t126, t127, t128, t129, t130], defers := [] } V) := by
    intro V bp ba bc
    intros
    rename_i B hp ha la hc lc
    rcases KM.out.cs with ⟨rfl, rfl, rfl, rfl, rfl⟩ | ⟨rfl, rfl, L, hL, hy, rfl, EX, hf⟩
    · refine md8a rfl B ?_ (by rw [← eA.out]; exact ha) (by rw [← eC.out]; exact hc)
      rw [eP.out] at hp
      exact hp 8 _ rfl
    · refine md8b (x := x) (y := y) (L := L) (Z := Z20.map (Value.int .u8)) rfl hL hy eC EX (fun V h => ⟨(TB.out V h).1, (TB.out V h).2.2⟩) ?_ B ?_ ha la hc lc
      · rcases hf with ⟨rfl, rfl⟩ | ⟨rfl, rfl⟩
        · exact .inl ⟨rfl, by rw [eA.out, eC.out]⟩
        · exact .inr ⟨rfl, eA.out⟩
      · rw [eP.out] at hp
        intro j hj
        have h := hp j _ (List.getElem?_eq_getElem hj)
        rw [Nat.zero_add] at h
        rw [List.getD, List.getElem?_eq_getElem hj]
        exact h
  have C1 : Hid (∀ V, Below w.heap.size w V → Calls Tryz.prog 14 #[.agg #[.int .u64 (l0 k), .int .u64 (l1 k), .int .u64 (l2 k), .int .u64 (l3 k)]] V fun e w' => e = .returned (.agg PV.toArray) ∧ Below V.heap.size V w') := fun V h => by rw [eP.out]; exact KM.out.mg V (TB.out V h).1 (TB.out V h).2.1
  have C2 : Hid (∀ V, Below w.heap.size w V → Calls Tryz.prog 15 #[.agg #[.int .u64 (l0 k), .int .u64 (l1 k), .int .u64 (l2 k), .int .u64 (l3 k)]] V fun e w' => e = .returned (.tuple #[.agg MA.toArray, .int .i64 fe]) ∧ Below V.heap.size V w') := fun V h => by rw [eA.out]; exact KM.out.ok V (TB.out V h).1 (TB.out V h).2.1 (TB.out V h).2.2
  have C3 : Hid (∀ V, Below w.heap.size w V → Calls Tryz.prog 16 #[.agg PV.toArray] V fun e w' => e = .returned (.tuple #[.agg MC.toArray, .int .i64 ge]) ∧ Below V.heap.size V w') := fun V h => by rw [eP.out, eC.out]; exact KM.out.op V (TB.out V h).1 (TB.out V h).2.2
  have kP : PV.length = 9 := by rw [eP.out]; rfl
  have szP : PV.toArray.size = 9 := by simp [kP]
  have ocP : PV.toArray.all (·.oneCell') = true := by rw [eP.out]; kernel_rfl
  have kA : MA.length = 20 := by rw [eA.out, List.length_map]; exact KM.out.la
  have szA : MA.toArray.size = 20 := by simp [kA]
  have ocA : MA.toArray.all (·.oneCell') = true := by rw [eA.out]; exact one_cells _
  have kC : MC.length = 20 := by rw [eC.out, List.length_map]; exact KM.out.lc
  have szC : MC.toArray.size = 20 := by simp [kC]
  have ocC : MC.toArray.all (·.oneCell') = true := by rw [eC.out]; exact one_cells _
  have KP : Hid (PV.length = 9) := kP
  have KA : Hid (MA.length = 20) := kA
  have KC : Hid (MC.length = 20) := kC
  clear eP eA eC KM TB kP kA kC
  have gK := hk.cells
  refine WpFrom.intro rfl ?_
  refine wp_seq_k fun K h => ?_
  have H : Hid _ := h
  clear h
  go_wp2_with fail
  with_reducible refine (C1.out W B).mono ?_
  rintro e w1 ⟨rfl, hb⟩
  replace B := B.trans (hb.mono B.size)
  replace hk := hk.keep hb
  clear hb C1 gK
  have nk : w1.heap.size ≠ bk := Nat.ne_of_gt hk.lt
  have F1 : ∀ t, Hid (Below w.heap.size w ((w1.alloc (.cells #[.int .u64 0, .int .u64 0, .int .u64 0, .int .u64 0, .int .u64 0, .int .u64 0, .int .u64 0, .int .u64 0, .bool false] t)).setCells w1.heap.size 0 PV) ∧ Nm ((w1.alloc (.cells #[.int .u64 0, .int .u64 0, .int .u64 0, .int .u64 0, .int .u64 0, .int .u64 0, .int .u64 0, .int .u64 0, .bool false] t)).setCells w1.heap.size 0 PV) bk k ∧ ((w1.alloc (.cells #[.int .u64 0, .int .u64 0, .int .u64 0, .int .u64 0, .int .u64 0, .int .u64 0, .int .u64 0, .int .u64 0, .bool false] t)).setCells w1.heap.size 0 PV).rangeAt w1.heap.size 0 PV ∧ w1.heap.size < ((w1.alloc (.cells #[.int .u64 0, .int .u64 0, .int .u64 0, .int .u64 0, .int .u64 0, .int .u64 0, .int .u64 0, .int .u64 0, .bool false] t)).setCells w1.heap.size 0 PV).heap.size) := fun t =>
    have hb : Below w1.heap.size w1 ((w1.alloc (.cells #[.int .u64 0, .int .u64 0, .int .u64 0, .int .u64 0, .int .u64 0, .int .u64 0, .int .u64 0, .int .u64 0, .bool false] t)).setCells w1.heap.size 0 PV) := below_setCells (Nat.le_refl _) PV 0 _ ((Below.refl _ _).alloc (Nat.le_refl _) _)
    ⟨B.trans (hb.mono B.size), hk.keep hb, World.rangeAt_setCells_same _ _ _ _ (there_new rfl (by rw [KP.out]; rfl)), Nat.lt_of_lt_of_le (by simp) (below_setCells (Nat.le_refl _) PV 0 _ (Below.refl _ _)).size⟩
  clear B hk W
  go_wp2_with ((refine wpList_store_mid rfl 46 _ _ rfl w1.heap.size 0 PV.toArray rfl rfl (there_new rfl (by rw [szP]; rfl)) (by rw [szP]; kernel_rfl) ocP ?_); (refine wpList_worldA (fun W => Below w.heap.size w W ∧ Nm W bk k ∧ W.rangeAt w1.heap.size 0 PV ∧ w1.heap.size < W.heap.size) (F1 _).out ?_); (rintro W ⟨B, hk, hP, lP⟩); (clear F1 nk ocP szP))
  generalize w1.heap.size = bp at *
  clear w1
  refine H.out _ _ ?_
  clear H K
  have gK := hk.cells
  refine wp_seq_k fun K h => ?_
  have H : Hid _ := h
  clear h
  go_wp2_with fail
  with_reducible refine (C2.out W B).mono ?_
  rintro e w1 ⟨rfl, hb⟩
  replace B := B.trans (hb.mono B.size)
  replace hP := range_keep hP hb lP
  have lP' : bp < w1.heap.size := Nat.lt_of_lt_of_le lP hb.size
  clear hb C2 gK hk lP W
  have F2 : ∀ t, Hid (Below w.heap.size w ((w1.alloc (.cells ((List.replicate 20 (0 : Int)).map (Value.int .u8)).toArray t)).setCells w1.heap.size 0 MA) ∧ (((w1.alloc (.cells ((List.replicate 20 (0 : Int)).map (Value.int .u8)).toArray t)).setCells w1.heap.size 0 MA).rangeAt bp 0 PV ∧ bp < ((w1.alloc (.cells ((List.replicate 20 (0 : Int)).map (Value.int .u8)).toArray t)).setCells w1.heap.size 0 MA).heap.size) ∧ ((w1.alloc (.cells ((List.replicate 20 (0 : Int)).map (Value.int .u8)).toArray t)).setCells w1.heap.size 0 MA).rangeAt w1.heap.size 0 MA ∧ w1.heap.size < ((w1.alloc (.cells ((List.replicate 20 (0 : Int)).map (Value.int .u8)).toArray t)).setCells w1.heap.size 0 MA).heap.size) := fun t =>
    have hb : Below w1.heap.size w1 ((w1.alloc (.cells ((List.replicate 20 (0 : Int)).map (Value.int .u8)).toArray t)).setCells w1.heap.size 0 MA) := below_setCells (Nat.le_refl _) MA 0 _ ((Below.refl _ _).alloc (Nat.le_refl _) _)
    ⟨B.trans (hb.mono B.size), ⟨range_keep hP hb lP', Nat.lt_of_lt_of_le lP' hb.size⟩, World.rangeAt_setCells_same _ _ _ _ (there_new rfl (by rw [KA.out]; rfl)), Nat.lt_of_lt_of_le (by simp) (below_setCells (Nat.le_refl _) MA 0 _ (Below.refl _ _)).size⟩
  clear B hP
  go_wp2_with (((refine wpList_store_mid rfl 26 _ _ rfl w1.heap.size 0 MA.toArray rfl rfl (there_new rfl (by rw [szA]; rfl)) (by rw [szA]; kernel_rfl) ocA ?_); (refine wpList_worldA (fun W => Below w.heap.size w W ∧ (W.rangeAt bp 0 PV ∧ bp < W.heap.size) ∧ W.rangeAt w1.heap.size 0 MA ∧ w1.heap.size < W.heap.size) (F2 _).out ?_); (rintro W ⟨B, ⟨hP, lP⟩, hA, lA⟩); (clear F2 ocA szA)))
  generalize w1.heap.size = ba at *
  clear w1 lP'
  refine H.out _ _ ?_
  clear H K
  refine wp_seq_k fun K h => ?_
  have H : Hid _ := h
  clear h
  go_wp2_with (refine wpList_load_mid rfl 46 _ rfl bp 0 rfl PV _ hP Tryz.underlying46 rfl (by rw [KP.out]; kernel_rfl) ?_)
  with_reducible refine (C3.out W B).mono ?_
  rintro e w1 ⟨rfl, hb⟩
  replace B := B.trans (hb.mono B.size)
  replace hP := range_keep hP hb lP
  replace hA := range_keep hA hb lA
  have lP' : bp < w1.heap.size := Nat.lt_of_lt_of_le lP hb.size
  have lA' : ba < w1.heap.size := Nat.lt_of_lt_of_le lA hb.size
  clear hb C3 lP lA W
  have F3 : ∀ t, Hid (Below w.heap.size w ((w1.alloc (.cells ((List.replicate 20 (0 : Int)).map (Value.int .u8)).toArray t)).setCells w1.heap.size 0 MC) ∧ ((w1.alloc (.cells ((List.replicate 20 (0 : Int)).map (Value.int .u8)).toArray t)).setCells w1.heap.size 0 MC).rangeAt bp 0 PV ∧ ((w1.alloc (.cells ((List.replicate 20 (0 : Int)).map (Value.int .u8)).toArray t)).setCells w1.heap.size 0 MC).rangeAt ba 0 MA ∧ ba < ((w1.alloc (.cells ((List.replicate 20 (0 : Int)).map (Value.int .u8)).toArray t)).setCells w1.heap.size 0 MC).heap.size ∧ ((w1.alloc (.cells ((List.replicate 20 (0 : Int)).map (Value.int .u8)).toArray t)).setCells w1.heap.size 0 MC).rangeAt w1.heap.size 0 MC ∧ w1.heap.size < ((w1.alloc (.cells ((List.replicate 20 (0 : Int)).map (Value.int .u8)).toArray t)).setCells w1.heap.size 0 MC).heap.size) := fun t =>
    have hb : Below w1.heap.size w1 ((w1.alloc (.cells ((List.replicate 20 (0 : Int)).map (Value.int .u8)).toArray t)).setCells w1.heap.size 0 MC) := below_setCells (Nat.le_refl _) MC 0 _ ((Below.refl _ _).alloc (Nat.le_refl _) _)
    ⟨B.trans (hb.mono B.size), range_keep hP hb lP', range_keep hA hb lA', Nat.lt_of_lt_of_le lA' hb.size, World.rangeAt_setCells_same _ _ _ _ (there_new rfl (by rw [KC.out]; rfl)), Nat.lt_of_lt_of_le (by simp) (below_setCells (Nat.le_refl _) MC 0 _ (Below.refl _ _)).size⟩
  clear B hP hA
  go_wp2_with (first | ((refine wpList_store_mid rfl 26 _ _ rfl w1.heap.size 0 MC.toArray rfl rfl (there_new rfl (by rw [szC]; rfl)) (by rw [szC]; kernel_rfl) ocC ?_); (refine wpList_worldA (fun W => Below w.heap.size w W ∧ W.rangeAt bp 0 PV ∧ W.rangeAt ba 0 MA ∧ ba < W.heap.size ∧ W.rangeAt w1.heap.size 0 MC ∧ w1.heap.size < W.heap.size) (F3 _).out ?_); (rintro W ⟨B, hP, hA, lA, hC, lC⟩); (clear F3 ocC szC)))
  generalize w1.heap.size = bc at *
  refine H.out _ _ ?_
  exact (T8.out W bp ba bc _ _ _ _ _ _ _ _ _ _ _ _ _ _ _ _ _ _ _ _ _ _ _ _ _ _ _ _ _ _ _ _ _ _ _ _ _ _ _ _ _ _ _ _ _ _ _ _ _ _ _ _ _ _ _ _ _ _ _ _ _ _ _ _ _ _ _ _ _ _ _ _ _ _ _ _ _ _ _ _ _ _ _ _ _ _ _ _ _ _ _ _ _ _ _ _ _ _ _ _ _ _ _ _ _ _ _ _ _ _ _ _ _ _ _ _ _ _ _ _ _ _ _ _ _ _ B hP hA lA hC lC).out rfl
end Go.Proofs.YtiebnlahhmngcaaGreatDoor

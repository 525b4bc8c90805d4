import Derived.Test.YtlpmphldmfefkaaDoorTxPs
import Derived.Test.YtlpmphldmfefkaaDoorFeA
import Derived.Test.YtlpmphldmfefkaaDoorTsD
import Derived.Test.YtlpmphldmfefkaaDoorOut
import Derived.Test.YtlpmphldmfefkaaDoorShl
import Derived.Test.YtlpmphldmfefkaaDoorShelf
import Derived.Lib.ItoaNum
import Derived.Deep.LoopGhost
import Derived.Test.YtlpmphldmfefkaaDoorHold
import Derived.Test.YtlpmphldmfefkaaDoorFeN
import Derived.Test.YtlpmphldmfefkaaDoorAdd
import Derived.Test.YtlpmphldmfefkaaDoorCmp
import Derived.Deep.RegionHeld3
import Derived.Test.YtlpmphldmfefkaaDoorQTail
import Derived.Test.YtlpmphldmfefkaaDoorFxB
/- Layer 18: BlobGas of both sides; the document's sum, product, most. -/
namespace Go.Proofs.YtlpmphldmfefkaaDoor
open Go.RowKit Go.Sort
open tq
/-- The gas of the blobs. -/
def bgT (t : Txv) : Int := if t.ty = 3 then 131072 * (t.Hsl.length : Int) else 0
theorem bgT_word {t : Txv} (h : t.Hsl.length < 1000000000) : Word (bgT t) := by
  unfold bgT; split
  · exact ⟨by omega, by omega⟩
  · exact ⟨by decide, by decide⟩
set_option maxRecDepth 100000 in
set_option maxHeartbeats 4000000 in
theorem blobGas_any {t : Txv} (h20 : t.to.length = 20) (hH : t.Hsl.length < 1000000000) (w : World) :
    Calls Tryd.prog 26 #[.agg (txC t).toArray] w fun e w' => e = .returned (.int .u64 (bgT t)) ∧ Below w.heap.size w w' := by
  have g := (txb_one (w := w) h20 32).ty
  have gh := (txb_one (w := w) h20 32).Hs
  have eb : bgT t = if t.ty = 3 then 131072 * (t.Hsl.length : Int) else 0 := rfl
  have n1 : (t.Hsl.length : Int) < 1000000000 := by omega
  have n0 : (0 : Int) ≤ (t.Hsl.length : Int) := by omega
  generalize bgT t = r at *
  generalize t.Hsl.length = n at *
  generalize txC t = M at *
  generalize t.ty = x at *
  clear hH h20
  by_cases c : x = 3
  · subst c
    rw [if_pos rfl] at eb
    have c1 : ((3 : Int) != 3) = false := rfl
    have e1 : IntKind.u64.wrap (n : Int) = n := by rw [IntKind.wrap_u64]; omega
    have e2 : IntKind.u64.wrap (131072 * (n : Int)) = 131072 * (n : Int) := by rw [IntKind.wrap_u64]; omega
    subst eb
    go_enter Tryd.func26, Tryd.ntmps26
    go_wp2
    simp [bodyPost, results, Tryd.results26, go_sem]
    repeat (first | with_reducible exact Below.refl _ _ | with_reducible refine Below.drew ?_ | with_reducible refine Below.alloc ?_ (by first | omega | (simp; done) | (simp; omega)) _)
  · rw [if_neg c] at eb
    have c1 : (x != 3) = true := bne_iff_ne.2 c
    subst eb
    go_enter Tryd.func26, Tryd.ntmps26
    go_wp2
    simp [bodyPost, results, Tryd.results26, go_sem]
    repeat (first | with_reducible exact Below.refl _ _ | with_reducible refine Below.drew ?_ | with_reducible refine Below.alloc ?_ (by first | omega | (simp; done) | (simp; omega)) _)
end Go.Proofs.YtlpmphldmfefkaaDoor

/- A transaction's fields in a block. -/
namespace Go.Proofs.YtlpmphldmfefkaaDoor.tq
open Go.RowKit Go.Sort
def numC (x : Int) : List Value := [.int .u64 (l0 x), .int .u64 (l1 x), .int .u64 (l2 x), .int .u64 (l3 x)]
theorem size_txT : (Tryd.prog.info? 32).map (·.size) = some 61 := by kernel_rfl
theorem range_4 {W : World} {b o : Nat} {x : Int} (h : W.cell? ⟨b, o, none⟩ = some (.int .u64 (l0 x)) ∧ W.cell? ⟨b, o + 1, none⟩ = some (.int .u64 (l1 x)) ∧ W.cell? ⟨b, o + 2, none⟩ = some (.int .u64 (l2 x)) ∧ W.cell? ⟨b, o + 3, none⟩ = some (.int .u64 (l3 x))) : W.rangeAt b o (numC x) := fun j v hv => by
  match j, hv with
  | 0, hv => obtain rfl := Option.some.inj hv; exact h.1
  | 1, hv => obtain rfl := Option.some.inj hv; exact h.2.1
  | 2, hv => obtain rfl := Option.some.inj hv; exact h.2.2.1
  | 3, hv => obtain rfl := Option.some.inj hv; exact h.2.2.2
  | j + 4, hv => simp [numC] at hv
/-- A transaction's fields as they lie in a block. -/
structure TxF (W : World) (b : Nat) (ty ch no : Int) (pr ti ca : List Value) (gas : Int) (cr : Bool) (to va : List Value) (D E : Value) (bc : List Value) (Hs U : Value) (sv sr ss : List Value) : Prop where
  ty : W.cell? ⟨b, 0, none⟩ = some (.int .i64 ty)
  ch : W.cell? ⟨b, 1, none⟩ = some (.int .u64 ch)
  no : W.cell? ⟨b, 2, none⟩ = some (.int .u64 no)
  pr : W.rangeAt b 3 pr
  ti : W.rangeAt b 7 ti
  ca : W.rangeAt b 11 ca
  gas : W.cell? ⟨b, 15, none⟩ = some (.int .u64 gas)
  cr : W.cell? ⟨b, 16, none⟩ = some (.bool cr)
  to : W.rangeAt b 17 to
  va : W.rangeAt b 37 va
  D : W.cell? ⟨b, 41, none⟩ = some D
  E : W.cell? ⟨b, 42, none⟩ = some E
  bc : W.rangeAt b 43 bc
  Hs : W.cell? ⟨b, 47, none⟩ = some Hs
  U : W.cell? ⟨b, 48, none⟩ = some U
  sv : W.rangeAt b 49 sv
  sr : W.rangeAt b 53 sr
  ss : W.rangeAt b 57 ss
theorem TxB.toR {W : World} {b : Nat} {t : Txv} (h : TxB W b t) : W.rangeAt b 17 (hC t.to) := fun j v hv => by
  have hj : j < 20 := by have := (List.getElem?_eq_some_iff.1 hv).1; rw [hC_len, h.len] at this; exact this
  have e : (txC t)[17 + j]? = some v := by
    have f : ∀ (p q r : List Value), p.length = 17 → q = hC t.to → (p ++ (q ++ r))[17 + j]? = some v := fun p q r hp hq => by
      rw [List.getElem?_append_right (by omega), hp, Nat.add_sub_cancel_left, List.getElem?_append_left (by rw [hq, hC_len, h.len]; exact hj), hq]
      exact hv
    unfold txC
    simpa only [List.append_assoc, List.cons_append, List.nil_append] using f [.int .i64 t.ty, .int .u64 t.ch, .int .u64 t.no, .int .u64 (l0 t.pr), .int .u64 (l1 t.pr), .int .u64 (l2 t.pr), .int .u64 (l3 t.pr), .int .u64 (l0 t.ti), .int .u64 (l1 t.ti), .int .u64 (l2 t.ti), .int .u64 (l3 t.ti), .int .u64 (l0 t.ca), .int .u64 (l1 t.ca), .int .u64 (l2 t.ca), .int .u64 (l3 t.ca), .int .u64 t.gas, .bool t.cr] (hC t.to) _ rfl rfl
  have := h.all (17 + j) v e
  rwa [Nat.zero_add] at this
theorem TxB.facts {W : World} {b : Nat} {t : Txv} (h : TxB W b t) : TxF W b t.ty t.ch t.no (numC t.pr) (numC t.ti) (numC t.ca) t.gas t.cr (hC t.to) (numC t.va) (.slice t.Da t.Dl.length t.Dc) (.slice t.Ea t.El.length t.Ec) (numC t.bc) (.slice t.Hsa t.Hsl.length t.Hsc) (.slice t.Ua t.Ul.length t.Uc) (numC t.sv) (numC t.sr) (numC t.ss) :=
  ⟨h.ty, h.ch, h.no, range_4 h.pr, range_4 h.ti, range_4 h.ca, h.gas, h.cr, h.toR, range_4 h.va, h.D, h.E, range_4 h.bc, h.Hs, h.U, range_4 h.sv, range_4 h.sr, range_4 h.ss⟩
end Go.Proofs.YtlpmphldmfefkaaDoor.tq

/- Layer 18: Price and Cost of both sides, of any transaction. -/
namespace Go.Proofs.YtlpmphldmfefkaaDoor
open Go.RowKit Go.Sort
open tq
theorem df_ok {t : Txv} (h : dfN t = 0) : 0 ≤ t.ty ∧ t.ty < 5 := by
  by_cases c : t.ty < 0 ∨ 5 ≤ t.ty
  · rw [df_other c] at h; exact absurd h (by decide)
  · omega
theorem z4 : (.agg #[.int .u64 (l0 0), .int .u64 (l1 0), .int .u64 (l2 0), .int .u64 (l3 0)] : Value) = .agg #[.int .u64 0, .int .u64 0, .int .u64 0, .int .u64 0] := by
  obtain ⟨z0, z1, z2, z3⟩ := zero_limbs
  rw [z0, z1, z2, z3]
/-- What it may cost. -/
def sumT (t : Txv) : Int := t.gas * capT t + bgT t * t.bc + t.va
def csE (t : Txv) : Int := if dfN t = 0 then wideE (sumT t) else dfN t
def csV (t : Txv) : Int := if dfN t = 0 then wideV (sumT t) else 0
theorem capT_Num {W : World} {t : Txv} (h : TxG W t) : Num (capT t) := by
  unfold capT; split
  · exact h.pr
  · exact h.ca
set_option maxHeartbeats 4000000 in
theorem cost_any {t : Txv} (w : World) (hG : TxG w t) (hH : t.Hsl.length < 1000000000) (hU : t.Ul.length < 1000000000) (hR : Rws w) :
    Calls Tryd.prog 21 #[.agg (txC t).toArray] w fun e w' => e = .returned (.tuple #[.agg #[.int .u64 (l0 (csV t)), .int .u64 (l1 (csV t)), .int .u64 (l2 (csV t)), .int .u64 (l3 (csV t))], .int .i64 (csE t)]) ∧ Below w.heap.size w w' := by
  have h20 := hG.to.1
  have DR : Hid (∀ W, Below w.heap.size w W → Calls Tryd.prog 9 #[.agg (txC t).toArray] W fun e w' => e = .returned (.int .i64 (dfN t)) ∧ Below W.heap.size W w') := fun W B => draft_at hG hH hU hR B
  by_cases d0 : dfN t = 0
  · have hty := df_ok d0
    rw [d0] at DR
    rw [show csV t = wideV (sumT t) from if_pos d0, show csE t = wideE (sumT t) from if_pos d0]
    have hg := hG.gas
    have hcap := capT_Num hG
    have hbg := bgT_word (t := t) hH
    have p1 := mul_nonneg9 hg.1 hcap.1
    have p2 := mul_nonneg9 hbg.1 hG.bc.1
    have v0 := hG.va.1
    have hs : sumT t = t.gas * capT t + bgT t * t.bc + t.va := rfl
    have hv := hG.va
    have CO : ∀ W, Below w.heap.size w W → _ := fun W (_ : Below w.heap.size w W) => capOf_any h20 W
    have T1 : ∀ W, Below w.heap.size w W → _ := fun W (_ : Below w.heap.size w W) => times_any hg hcap W
    have BG : ∀ W, Below w.heap.size w W → _ := fun W (_ : Below w.heap.size w W) => blobGas_any h20 hH W
    have T2 : ∀ W, Below w.heap.size w W → _ := fun W (_ : Below w.heap.size w W) => times_any hbg hG.bc W
    by_cases x1 : t.gas * capT t < 115792089237316195423570985008687907853269984665640564039457584007913129639936
    · rw [show wideV (t.gas * capT t) = t.gas * capT t from if_pos x1, show wideE (t.gas * capT t) = 0 from if_pos x1] at T1
      by_cases x2 : bgT t * t.bc < 115792089237316195423570985008687907853269984665640564039457584007913129639936
      · rw [show wideV (bgT t * t.bc) = bgT t * t.bc from if_pos x2, show wideE (bgT t * t.bc) = 0 from if_pos x2] at T2
        have P1 : ∀ W, Below w.heap.size w W → _ := fun W (_ : Below w.heap.size w W) => plus_any (x := t.gas * capT t) (y := bgT t * t.bc) ⟨p1, x1⟩ ⟨p2, x2⟩ W
        by_cases x3 : t.gas * capT t + bgT t * t.bc < 115792089237316195423570985008687907853269984665640564039457584007913129639936
        · rw [show wideV (t.gas * capT t + bgT t * t.bc) = t.gas * capT t + bgT t * t.bc from if_pos x3, show wideE (t.gas * capT t + bgT t * t.bc) = 0 from if_pos x3] at P1
          have P2 : ∀ W, Below w.heap.size w W → _ := fun W (_ : Below w.heap.size w W) => plus_any (x := t.gas * capT t + bgT t * t.bc) (y := t.va) ⟨by omega, x3⟩ hv W
          exact cost_4 h20 w DR CO T1 BG T2 P1 P2
        · rw [show wideE (t.gas * capT t + bgT t * t.bc) = 183 from if_neg x3] at P1
          rw [show wideV (sumT t) = 0 from if_neg (by omega), show wideE (sumT t) = 183 from if_neg (by omega), z4]
          exact cost_3 h20 w DR CO T1 BG T2 P1 (by decide)
      · rw [show wideE (bgT t * t.bc) = 183 from if_neg x2] at T2
        rw [show wideV (sumT t) = 0 from if_neg (by omega), show wideE (sumT t) = 183 from if_neg (by omega), z4]
        exact cost_2 h20 w DR CO T1 BG T2 (by decide)
    · rw [show wideE (t.gas * capT t) = 183 from if_neg x1] at T1
      rw [show wideV (sumT t) = 0 from if_neg (by omega), show wideE (sumT t) = 183 from if_neg (by omega), z4]
      exact cost_1 h20 w DR CO T1 (by decide)
  · rw [show csV t = 0 from if_neg d0, show csE t = dfN t from if_neg d0, z4]
    exact cost_0 h20 w DR d0
end Go.Proofs.YtlpmphldmfefkaaDoor

import Derived.Test.YtllfmlgnemkklaaDoorTsH
/- A transaction's fields in a block. -/
namespace Go.Proofs.YtllfmlgnemkklaaDoor.tq
open Go.RowKit Go.Sort
def numC (x : Int) : List Value := [.int .u64 (l0 x), .int .u64 (l1 x), .int .u64 (l2 x), .int .u64 (l3 x)]
theorem size_txT : (Tryd.prog.info? 32).map (·.size) = some 61 := by kernel_rfl
theorem range_4 {W : World} {b o : Nat} {x : Int} (h : W.cell? ⟨b, o, none⟩ = some (.int .u64 (l0 x)) ∧ W.cell? ⟨b, o + 1, none⟩ = some (.int .u64 (l1 x)) ∧ W.cell? ⟨b, o + 2, none⟩ = some (.int .u64 (l2 x)) ∧ W.cell? ⟨b, o + 3, none⟩ = some (.int .u64 (l3 x))) : W.rangeAt b o (numC x) := fun j v hv => by
  match j, hv with
  | 0, hv => obtain rfl := Option.some.inj hv; exact h.1
  | 1, hv => obtain rfl := Option.some.inj hv; exact h.2.1
  | 2, hv => obtain rfl := Option.some.inj hv; exact h.2.2.1
  | 3, hv => obtain rfl := Option.some.inj hv; exact h.2.2.2
  | j + 4, hv => simp [numC] at hv
/-- A transaction's fields as they lie in a block. -/
structure TxF (W : World) (b : Nat) (ty ch no : Int) (pr ti ca : List Value) (gas : Int) (cr : Bool) (to va : List Value) (D E : Value) (bc : List Value) (Hs U : Value) (sv sr ss : List Value) : Prop where
  ty : W.cell? ⟨b, 0, none⟩ = some (.int .i64 ty)
  ch : W.cell? ⟨b, 1, none⟩ = some (.int .u64 ch)
  no : W.cell? ⟨b, 2, none⟩ = some (.int .u64 no)
  pr : W.rangeAt b 3 pr
  ti : W.rangeAt b 7 ti
  ca : W.rangeAt b 11 ca
  gas : W.cell? ⟨b, 15, none⟩ = some (.int .u64 gas)
  cr : W.cell? ⟨b, 16, none⟩ = some (.bool cr)
  to : W.rangeAt b 17 to
  va : W.rangeAt b 37 va
  D : W.cell? ⟨b, 41, none⟩ = some D
  E : W.cell? ⟨b, 42, none⟩ = some E
  bc : W.rangeAt b 43 bc
  Hs : W.cell? ⟨b, 47, none⟩ = some Hs
  U : W.cell? ⟨b, 48, none⟩ = some U
  sv : W.rangeAt b 49 sv
  sr : W.rangeAt b 53 sr
  ss : W.rangeAt b 57 ss
theorem TxB.toR {W : World} {b : Nat} {t : Txv} (h : TxB W b t) : W.rangeAt b 17 (hC t.to) := fun j v hv => by
  have hj : j < 20 := by have := (List.getElem?_eq_some_iff.1 hv).1; rw [hC_len, h.len] at this; exact this
  have e : (txC t)[17 + j]? = some v := by
    have f : ∀ (p q r : List Value), p.length = 17 → q = hC t.to → (p ++ (q ++ r))[17 + j]? = some v := fun p q r hp hq => by
      rw [List.getElem?_append_right (by omega), hp, Nat.add_sub_cancel_left, List.getElem?_append_left (by rw [hq, hC_len, h.len]; exact hj), hq]
      exact hv
    unfold txC
    simpa only [List.append_assoc, List.cons_append, List.nil_append] using f [.int .i64 t.ty, .int .u64 t.ch, .int .u64 t.no, .int .u64 (l0 t.pr), .int .u64 (l1 t.pr), .int .u64 (l2 t.pr), .int .u64 (l3 t.pr), .int .u64 (l0 t.ti), .int .u64 (l1 t.ti), .int .u64 (l2 t.ti), .int .u64 (l3 t.ti), .int .u64 (l0 t.ca), .int .u64 (l1 t.ca), .int .u64 (l2 t.ca), .int .u64 (l3 t.ca), .int .u64 t.gas, .bool t.cr] (hC t.to) _ rfl rfl
  have := h.all (17 + j) v e
  rwa [Nat.zero_add] at this
theorem TxB.facts {W : World} {b : Nat} {t : Txv} (h : TxB W b t) : TxF W b t.ty t.ch t.no (numC t.pr) (numC t.ti) (numC t.ca) t.gas t.cr (hC t.to) (numC t.va) (.slice t.Da t.Dl.length t.Dc) (.slice t.Ea t.El.length t.Ec) (numC t.bc) (.slice t.Hsa t.Hsl.length t.Hsc) (.slice t.Ua t.Ul.length t.Uc) (numC t.sv) (numC t.sr) (numC t.ss) :=
  ⟨h.ty, h.ch, h.no, range_4 h.pr, range_4 h.ti, range_4 h.ca, h.gas, h.cr, h.toR, range_4 h.va, h.D, h.E, range_4 h.bc, h.Hs, h.U, range_4 h.sv, range_4 h.sr, range_4 h.ss⟩
end Go.Proofs.YtllfmlgnemkklaaDoor.tq

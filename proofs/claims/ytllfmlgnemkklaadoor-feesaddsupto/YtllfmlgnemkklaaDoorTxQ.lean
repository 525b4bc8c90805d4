import Derived.Test.YtllfmlgnemkklaaDoorTxP
/- Layer 15: a transaction in a block. -/
namespace Go.Proofs.YtllfmlgnemkklaaDoor.tq
open Go.RowKit Go.Sort
/-- A transaction's cells. -/
structure TxB (W : World) (b : Nat) (t : Txv) : Prop where
  all : W.rangeAt b 0 (txC t)
  len : t.to.length = 20
theorem txC_len {t : Txv} (h : t.to.length = 20) : (txC t).length = 61 := by simp [txC, hC, h]
theorem TxB.keep {W W' : World} {b : Nat} {t : Txv} (h : TxB W b t) (B : Below W.heap.size W W') : TxB W' b t := ⟨fun j v hv => cell_keep B (h.all j v hv), h.len⟩
theorem TxB.new {W : World} {t : Txv} {ty : TypeId} (h : t.to.length = 20) : TxB (W.alloc (.cells (txC t).toArray ty)) W.heap.size t := ⟨fun j v hv => by rw [Nat.zero_add, World.cell?_alloc_mark]; simpa using hv, h⟩
theorem TxB.lt {W : World} {b : Nat} {t : Txv} (h : TxB W b t) : b < W.heap.size := World.block_lt_of_cell? W _ (h.all 0 _ rfl)
theorem TxB.cell {W : World} {b : Nat} {t : Txv} (h : TxB W b t) (j : Nat) {v : Value} (e : (txC t)[j]? = some v) : W.cell? ⟨b, j, none⟩ = some v := by simpa using h.all j v e
theorem tail37 {t : Txv} (h : t.to.length = 20) (j : Nat) : (txC t)[37 + j]? = (txC { t with to := [] })[17 + j]? := by
  unfold txC hC
  simp only [List.map_nil, List.nil_append]
  have e : ∀ (p r : List Value), p.length = 17 → (p ++ (t.to.map (Value.int .u8) ++ r))[37 + j]? = (p ++ r)[17 + j]? := fun p r hp => by
    rw [List.getElem?_append_right (by omega), List.getElem?_append_right (by rw [List.length_map]; omega), List.getElem?_append_right (by omega), List.length_map]
    congr 1
    omega
  simpa only [List.append_assoc, List.cons_append, List.nil_append] using e [.int .i64 t.ty, .int .u64 t.ch, .int .u64 t.no, .int .u64 (l0 t.pr), .int .u64 (l1 t.pr), .int .u64 (l2 t.pr), .int .u64 (l3 t.pr), .int .u64 (l0 t.ti), .int .u64 (l1 t.ti), .int .u64 (l2 t.ti), .int .u64 (l3 t.ti), .int .u64 (l0 t.ca), .int .u64 (l1 t.ca), .int .u64 (l2 t.ca), .int .u64 (l3 t.ca), .int .u64 t.gas, .bool t.cr] _ rfl
theorem TxB.ty {W : World} {b : Nat} {t : Txv} (h : TxB W b t) : W.cell? ⟨b, 0, none⟩ = some (.int .i64 t.ty) := h.cell 0 rfl
theorem TxB.ch {W : World} {b : Nat} {t : Txv} (h : TxB W b t) : W.cell? ⟨b, 1, none⟩ = some (.int .u64 t.ch) := h.cell 1 rfl
theorem TxB.no {W : World} {b : Nat} {t : Txv} (h : TxB W b t) : W.cell? ⟨b, 2, none⟩ = some (.int .u64 t.no) := h.cell 2 rfl
theorem TxB.pr {W : World} {b : Nat} {t : Txv} (h : TxB W b t) : W.cell? ⟨b, 3, none⟩ = some (.int .u64 (l0 t.pr)) ∧ W.cell? ⟨b, 4, none⟩ = some (.int .u64 (l1 t.pr)) ∧ W.cell? ⟨b, 5, none⟩ = some (.int .u64 (l2 t.pr)) ∧ W.cell? ⟨b, 6, none⟩ = some (.int .u64 (l3 t.pr)) := ⟨h.cell 3 rfl, h.cell 4 rfl, h.cell 5 rfl, h.cell 6 rfl⟩
theorem TxB.ti {W : World} {b : Nat} {t : Txv} (h : TxB W b t) : W.cell? ⟨b, 7, none⟩ = some (.int .u64 (l0 t.ti)) ∧ W.cell? ⟨b, 8, none⟩ = some (.int .u64 (l1 t.ti)) ∧ W.cell? ⟨b, 9, none⟩ = some (.int .u64 (l2 t.ti)) ∧ W.cell? ⟨b, 10, none⟩ = some (.int .u64 (l3 t.ti)) := ⟨h.cell 7 rfl, h.cell 8 rfl, h.cell 9 rfl, h.cell 10 rfl⟩
theorem TxB.ca {W : World} {b : Nat} {t : Txv} (h : TxB W b t) : W.cell? ⟨b, 11, none⟩ = some (.int .u64 (l0 t.ca)) ∧ W.cell? ⟨b, 12, none⟩ = some (.int .u64 (l1 t.ca)) ∧ W.cell? ⟨b, 13, none⟩ = some (.int .u64 (l2 t.ca)) ∧ W.cell? ⟨b, 14, none⟩ = some (.int .u64 (l3 t.ca)) := ⟨h.cell 11 rfl, h.cell 12 rfl, h.cell 13 rfl, h.cell 14 rfl⟩
theorem TxB.gas {W : World} {b : Nat} {t : Txv} (h : TxB W b t) : W.cell? ⟨b, 15, none⟩ = some (.int .u64 t.gas) := h.cell 15 rfl
theorem TxB.cr {W : World} {b : Nat} {t : Txv} (h : TxB W b t) : W.cell? ⟨b, 16, none⟩ = some (.bool t.cr) := h.cell 16 rfl
theorem TxB.va {W : World} {b : Nat} {t : Txv} (h : TxB W b t) : W.cell? ⟨b, 37, none⟩ = some (.int .u64 (l0 t.va)) ∧ W.cell? ⟨b, 38, none⟩ = some (.int .u64 (l1 t.va)) ∧ W.cell? ⟨b, 39, none⟩ = some (.int .u64 (l2 t.va)) ∧ W.cell? ⟨b, 40, none⟩ = some (.int .u64 (l3 t.va)) := ⟨h.cell 37 (by rw [show 37 = 37 + 0 from rfl, tail37 h.len]; rfl), h.cell 38 (by rw [show 38 = 37 + 1 from rfl, tail37 h.len]; rfl), h.cell 39 (by rw [show 39 = 37 + 2 from rfl, tail37 h.len]; rfl), h.cell 40 (by rw [show 40 = 37 + 3 from rfl, tail37 h.len]; rfl)⟩
theorem TxB.D {W : World} {b : Nat} {t : Txv} (h : TxB W b t) : W.cell? ⟨b, 41, none⟩ = some (.slice t.Da t.Dl.length t.Dc) := h.cell 41 (by rw [show 41 = 37 + 4 from rfl, tail37 h.len]; rfl)
theorem TxB.E {W : World} {b : Nat} {t : Txv} (h : TxB W b t) : W.cell? ⟨b, 42, none⟩ = some (.slice t.Ea t.El.length t.Ec) := h.cell 42 (by rw [show 42 = 37 + 5 from rfl, tail37 h.len]; rfl)
theorem TxB.bc {W : World} {b : Nat} {t : Txv} (h : TxB W b t) : W.cell? ⟨b, 43, none⟩ = some (.int .u64 (l0 t.bc)) ∧ W.cell? ⟨b, 44, none⟩ = some (.int .u64 (l1 t.bc)) ∧ W.cell? ⟨b, 45, none⟩ = some (.int .u64 (l2 t.bc)) ∧ W.cell? ⟨b, 46, none⟩ = some (.int .u64 (l3 t.bc)) := ⟨h.cell 43 (by rw [show 43 = 37 + 6 from rfl, tail37 h.len]; rfl), h.cell 44 (by rw [show 44 = 37 + 7 from rfl, tail37 h.len]; rfl), h.cell 45 (by rw [show 45 = 37 + 8 from rfl, tail37 h.len]; rfl), h.cell 46 (by rw [show 46 = 37 + 9 from rfl, tail37 h.len]; rfl)⟩
theorem TxB.Hs {W : World} {b : Nat} {t : Txv} (h : TxB W b t) : W.cell? ⟨b, 47, none⟩ = some (.slice t.Hsa t.Hsl.length t.Hsc) := h.cell 47 (by rw [show 47 = 37 + 10 from rfl, tail37 h.len]; rfl)
theorem TxB.U {W : World} {b : Nat} {t : Txv} (h : TxB W b t) : W.cell? ⟨b, 48, none⟩ = some (.slice t.Ua t.Ul.length t.Uc) := h.cell 48 (by rw [show 48 = 37 + 11 from rfl, tail37 h.len]; rfl)
theorem TxB.sv {W : World} {b : Nat} {t : Txv} (h : TxB W b t) : W.cell? ⟨b, 49, none⟩ = some (.int .u64 (l0 t.sv)) ∧ W.cell? ⟨b, 50, none⟩ = some (.int .u64 (l1 t.sv)) ∧ W.cell? ⟨b, 51, none⟩ = some (.int .u64 (l2 t.sv)) ∧ W.cell? ⟨b, 52, none⟩ = some (.int .u64 (l3 t.sv)) := ⟨h.cell 49 (by rw [show 49 = 37 + 12 from rfl, tail37 h.len]; rfl), h.cell 50 (by rw [show 50 = 37 + 13 from rfl, tail37 h.len]; rfl), h.cell 51 (by rw [show 51 = 37 + 14 from rfl, tail37 h.len]; rfl), h.cell 52 (by rw [show 52 = 37 + 15 from rfl, tail37 h.len]; rfl)⟩
theorem TxB.sr {W : World} {b : Nat} {t : Txv} (h : TxB W b t) : W.cell? ⟨b, 53, none⟩ = some (.int .u64 (l0 t.sr)) ∧ W.cell? ⟨b, 54, none⟩ = some (.int .u64 (l1 t.sr)) ∧ W.cell? ⟨b, 55, none⟩ = some (.int .u64 (l2 t.sr)) ∧ W.cell? ⟨b, 56, none⟩ = some (.int .u64 (l3 t.sr)) := ⟨h.cell 53 (by rw [show 53 = 37 + 16 from rfl, tail37 h.len]; rfl), h.cell 54 (by rw [show 54 = 37 + 17 from rfl, tail37 h.len]; rfl), h.cell 55 (by rw [show 55 = 37 + 18 from rfl, tail37 h.len]; rfl), h.cell 56 (by rw [show 56 = 37 + 19 from rfl, tail37 h.len]; rfl)⟩
theorem TxB.ss {W : World} {b : Nat} {t : Txv} (h : TxB W b t) : W.cell? ⟨b, 57, none⟩ = some (.int .u64 (l0 t.ss)) ∧ W.cell? ⟨b, 58, none⟩ = some (.int .u64 (l1 t.ss)) ∧ W.cell? ⟨b, 59, none⟩ = some (.int .u64 (l2 t.ss)) ∧ W.cell? ⟨b, 60, none⟩ = some (.int .u64 (l3 t.ss)) := ⟨h.cell 57 (by rw [show 57 = 37 + 20 from rfl, tail37 h.len]; rfl), h.cell 58 (by rw [show 58 = 37 + 21 from rfl, tail37 h.len]; rfl), h.cell 59 (by rw [show 59 = 37 + 22 from rfl, tail37 h.len]; rfl), h.cell 60 (by rw [show 60 = 37 + 23 from rfl, tail37 h.len]; rfl)⟩
end Go.Proofs.YtllfmlgnemkklaaDoor.tq

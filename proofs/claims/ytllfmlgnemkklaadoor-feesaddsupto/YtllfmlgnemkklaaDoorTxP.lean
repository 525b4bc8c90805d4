import Derived.Test.YtllfmlgnemkklaaDoorTxO
/- Layer 15: a transaction as an argument. -/
namespace Go.Proofs.YtllfmlgnemkklaaDoor.tq
open Go.ChangeShapes Go.WideShapes Go.ChangeAt Go.RowKit Go.Deep
theorem cells_esN : Tryd.prog.cellsOf 28 = 1 := by kernel_rfl
theorem cells_usN : Tryd.prog.cellsOf 30 = 1 := by kernel_rfl
theorem cells_txN : Tryd.prog.cellsOf 32 = 61 := by kernel_rfl
/-- Bytes as a list that can be read. -/
def BtG (W : World) (a : Option Addr) (b o c : Nat) (X : List Int) : Prop := (X.length ≤ c ∧ (a = none → c = 0)) ∧ Az a b o X ∧ Bz W b o X ∧ Bys X
/-- A transaction. -/
structure Txv where
  ty : Int
  ch : Int
  no : Int
  pr : Int
  ti : Int
  ca : Int
  gas : Int
  cr : Bool
  to : List Int
  va : Int
  Da : Option Addr
  Db : Nat
  Do : Nat
  Dc : Nat
  Dl : List Int
  Ea : Option Addr
  Eb : Nat
  Eo : Nat
  Ec : Nat
  El : List En
  bc : Int
  Hsa : Option Addr
  Hsb : Nat
  Hso : Nat
  Hsc : Nat
  Hsl : List (List Int)
  Ua : Option Addr
  Ub : Nat
  Uo : Nat
  Uc : Nat
  Ul : List Aun
  sv : Int
  sr : Int
  ss : Int
def txC (t : Txv) : List Value :=
  [.int .i64 t.ty] ++ ([.int .u64 t.ch] ++ ([.int .u64 t.no] ++ ([.int .u64 (l0 t.pr), .int .u64 (l1 t.pr), .int .u64 (l2 t.pr), .int .u64 (l3 t.pr)] ++ ([.int .u64 (l0 t.ti), .int .u64 (l1 t.ti), .int .u64 (l2 t.ti), .int .u64 (l3 t.ti)] ++ ([.int .u64 (l0 t.ca), .int .u64 (l1 t.ca), .int .u64 (l2 t.ca), .int .u64 (l3 t.ca)] ++ ([.int .u64 t.gas] ++ ([.bool t.cr] ++ (hC t.to ++ ([.int .u64 (l0 t.va), .int .u64 (l1 t.va), .int .u64 (l2 t.va), .int .u64 (l3 t.va)] ++ ([.slice t.Da t.Dl.length t.Dc] ++ ([.slice t.Ea t.El.length t.Ec] ++ ([.int .u64 (l0 t.bc), .int .u64 (l1 t.bc), .int .u64 (l2 t.bc), .int .u64 (l3 t.bc)] ++ ([.slice t.Hsa t.Hsl.length t.Hsc] ++ ([.slice t.Ua t.Ul.length t.Uc] ++ ([.int .u64 (l0 t.sv), .int .u64 (l1 t.sv), .int .u64 (l2 t.sv), .int .u64 (l3 t.sv)] ++ ([.int .u64 (l0 t.sr), .int .u64 (l1 t.sr), .int .u64 (l2 t.sr), .int .u64 (l3 t.sr)] ++ ([.int .u64 (l0 t.ss), .int .u64 (l1 t.ss), .int .u64 (l2 t.ss), .int .u64 (l3 t.ss)])))))))))))))))))
structure TxG (W : World) (t : Txv) : Prop where
  ty : (Lit.int .i64 t.ty).wf = true
  ch : Word t.ch
  no : Word t.no
  pr : Num t.pr
  ti : Num t.ti
  ca : Num t.ca
  gas : Word t.gas
  to : (t.to.length = 20 ∧ Bys t.to)
  va : Num t.va
  D : BtG W t.Da t.Db t.Do t.Dc t.Dl
  E : EsG W t.Ea t.Eb t.Eo t.Ec t.El
  bc : Num t.bc
  Hs : KsG W t.Hsa t.Hsb t.Hso t.Hsc t.Hsl
  U : UsG W t.Ua t.Ub t.Uo t.Uc t.Ul
  sv : Num t.sv
  sr : Num t.sr
  ss : Num t.ss
def txW (t : Txv) : Nat := t.Dl.length + sumW enW t.El + sumW (fun X => X.length + 1) t.Hsl + sumW (fun _ => 1) t.Ul
section
variable {H : Type} {enc : TypeId × Value → H} {W : World}
set_option maxRecDepth 100000 in
theorem cells_tx {fuel : Nat} {cs : List Value} {x : DataW H × List MemPlace} (hf : DataW.trod enc Tryd.prog W 0 (fun _ => true) true fuel 32 cs = some x) : ∃ t, TxG W t ∧ cs = txC t ∧ txW t ≤ Rows.uptoBulk x.1 := by
  obtain ⟨xs, m, hfu, hxx, hl, hn, hi⟩ := DataW.trod_struct Tryd.underlying32 hf
  rw [cells_txN] at hl
  match xs, hn with
  | [y0, y1, y2, y3, y4, y5, y6, y7, y8, y9, y10, y11, y12, y13, y14, y15, y16, y17], _ =>
    have a0 : DataW.trod enc Tryd.prog W 0 (fun _ => true) true m 3 (List.take (Tryd.prog.cellsOf 3) (List.drop 0 cs)) = some y0 := hi 0 _ rfl
    rw [cellsI] at a0
    have a1 : DataW.trod enc Tryd.prog W 0 (fun _ => true) true m 22 (List.take (Tryd.prog.cellsOf 22) (List.drop 1 cs)) = some y1 := hi 1 _ rfl
    rw [cells_u64X] at a1
    have a2 : DataW.trod enc Tryd.prog W 0 (fun _ => true) true m 22 (List.take (Tryd.prog.cellsOf 22) (List.drop 2 cs)) = some y2 := hi 2 _ rfl
    rw [cells_u64X] at a2
    have a3 : DataW.trod enc Tryd.prog W 0 (fun _ => true) true m 24 (List.take (Tryd.prog.cellsOf 24) (List.drop 3 cs)) = some y3 := hi 3 _ rfl
    rw [cells_numX] at a3
    have a4 : DataW.trod enc Tryd.prog W 0 (fun _ => true) true m 24 (List.take (Tryd.prog.cellsOf 24) (List.drop 7 cs)) = some y4 := hi 4 _ rfl
    rw [cells_numX] at a4
    have a5 : DataW.trod enc Tryd.prog W 0 (fun _ => true) true m 24 (List.take (Tryd.prog.cellsOf 24) (List.drop 11 cs)) = some y5 := hi 5 _ rfl
    rw [cells_numX] at a5
    have a6 : DataW.trod enc Tryd.prog W 0 (fun _ => true) true m 22 (List.take (Tryd.prog.cellsOf 22) (List.drop 15 cs)) = some y6 := hi 6 _ rfl
    rw [cells_u64X] at a6
    have a7 : DataW.trod enc Tryd.prog W 0 (fun _ => true) true m 4 (List.take (Tryd.prog.cellsOf 4) (List.drop 16 cs)) = some y7 := hi 7 _ rfl
    rw [cellsO] at a7
    have a8 : DataW.trod enc Tryd.prog W 0 (fun _ => true) true m 26 (List.take (Tryd.prog.cellsOf 26) (List.drop 17 cs)) = some y8 := hi 8 _ rfl
    rw [cells_adN] at a8
    have a9 : DataW.trod enc Tryd.prog W 0 (fun _ => true) true m 24 (List.take (Tryd.prog.cellsOf 24) (List.drop 37 cs)) = some y9 := hi 9 _ rfl
    rw [cells_numX] at a9
    have a10 : DataW.trod enc Tryd.prog W 0 (fun _ => true) true m 27 (List.take (Tryd.prog.cellsOf 27) (List.drop 41 cs)) = some y10 := hi 10 _ rfl
    rw [cellsB] at a10
    have a11 : DataW.trod enc Tryd.prog W 0 (fun _ => true) true m 28 (List.take (Tryd.prog.cellsOf 28) (List.drop 42 cs)) = some y11 := hi 11 _ rfl
    rw [cells_esN] at a11
    have a12 : DataW.trod enc Tryd.prog W 0 (fun _ => true) true m 24 (List.take (Tryd.prog.cellsOf 24) (List.drop 43 cs)) = some y12 := hi 12 _ rfl
    rw [cells_numX] at a12
    have a13 : DataW.trod enc Tryd.prog W 0 (fun _ => true) true m 29 (List.take (Tryd.prog.cellsOf 29) (List.drop 47 cs)) = some y13 := hi 13 _ rfl
    rw [cells_hsN] at a13
    have a14 : DataW.trod enc Tryd.prog W 0 (fun _ => true) true m 30 (List.take (Tryd.prog.cellsOf 30) (List.drop 48 cs)) = some y14 := hi 14 _ rfl
    rw [cells_usN] at a14
    have a15 : DataW.trod enc Tryd.prog W 0 (fun _ => true) true m 24 (List.take (Tryd.prog.cellsOf 24) (List.drop 49 cs)) = some y15 := hi 15 _ rfl
    rw [cells_numX] at a15
    have a16 : DataW.trod enc Tryd.prog W 0 (fun _ => true) true m 24 (List.take (Tryd.prog.cellsOf 24) (List.drop 53 cs)) = some y16 := hi 16 _ rfl
    rw [cells_numX] at a16
    have a17 : DataW.trod enc Tryd.prog W 0 (fun _ => true) true m 24 (List.take (Tryd.prog.cellsOf 24) (List.drop 57 cs)) = some y17 := hi 17 _ rfl
    rw [cells_numX] at a17
    obtain ⟨v0, e0, _, w0⟩ := DataW.trod_int Tryd.underlying3 a0
    obtain ⟨v1, e1, _, w1⟩ := DataW.trod_int Tryd.underlying22 a1
    obtain ⟨v2, e2, _, w2⟩ := DataW.trod_int Tryd.underlying22 a2
    obtain ⟨v3, w3, e3⟩ := trod_numX a3
    obtain ⟨v4, w4, e4⟩ := trod_numX a4
    obtain ⟨v5, w5, e5⟩ := trod_numX a5
    obtain ⟨v6, e6, _, w6⟩ := DataW.trod_int Tryd.underlying22 a6
    obtain ⟨v7, e7, _⟩ := DataW.trod_bool Tryd.underlying4 a7
    obtain ⟨v8, w8, e8, _⟩ := cells_arr Tryd.underlying26 cells_adN a8
    obtain ⟨v9, w9, e9⟩ := trod_numX a9
    obtain ⟨p10, q10, r10, s10, v10, e10, g1, g2, g3, g4, b10⟩ := cells_bytes a10
    obtain ⟨p11, q11, r11, s11, v11, e11, w11, b11⟩ := cells_ens a11
    obtain ⟨v12, w12, e12⟩ := trod_numX a12
    obtain ⟨p13, q13, r13, s13, v13, e13, w13, b13⟩ := cells_has a13
    obtain ⟨p14, q14, r14, s14, v14, e14, w14, b14⟩ := cells_auns a14
    obtain ⟨v15, w15, e15⟩ := trod_numX a15
    obtain ⟨v16, w16, e16⟩ := trod_numX a16
    obtain ⟨v17, w17, e17⟩ := trod_numX a17
    refine ⟨⟨v0, v1, v2, v3, v4, v5, v6, v7, v8, v9, p10, q10, r10, s10, v10, p11, q11, r11, s11, v11, v12, p13, q13, r13, s13, v13, p14, q14, r14, s14, v14, v15, v16, v17⟩, ⟨w0, word_of_wf w1, word_of_wf w2, w3, w4, w5, word_of_wf w6, w8, w9, ⟨g1, g2, g3, g4⟩, w11, w12, w13, w14, w15, w16, w17⟩, ?_, ?_⟩
    · have := pcs_all [1, 1, 1, 4, 4, 4, 1, 1, 20, 4, 1, 1, 4, 1, 1, 4, 4, 4] 0 cs (by rw [hl]; rfl)
      rw [List.drop_zero] at this
      rw [← this]
      simp only [pcs, Nat.zero_add, Nat.reduceAdd, List.append_nil]
      rw [e0, e1, e2, e3, e4, e5, e6, e7, e8, e9, e10, e11, e12, e13, e14, e15, e16, e17]
      rfl
    · rw [hxx, txW]
      simp only [List.map_cons, List.map_nil, Rows.uptoBulk, Rows.uptoBulkAll]
      omega
set_option maxRecDepth 100000 in
theorem open_tx {base : Nat} {v : Value} {d : DataW H} {p : List MemPlace} (hval : Value.okWide Tryd.prog W .any base 32 v) (h : DataW.Trod enc Tryd.prog W 0 (fun _ => true) true 32 v d p) :
    ∃ t : Txv, TxG W t ∧ v = .agg (txC t).toArray ∧ txW t ≤ Rows.uptoBulk d := by
  obtain ⟨cs, rfl, hsz⟩ : ∃ cs : Array Value, v = .agg cs ∧ cs.size = 61 := by
    simp only [Value.okWide, Tryd.underlying32] at hval
    obtain ⟨cs, h1, h2, _⟩ := hval
    exact ⟨cs, h1, h2.trans cells_txN⟩
  obtain ⟨fuel, hf⟩ := h
  obtain ⟨t, h1, h2, h3⟩ := cells_tx hf
  refine ⟨t, h1, ?_, h3⟩
  have e : cs = (txC t).toArray := by
    apply Array.toList_inj.1
    simpa [Value.cells] using h2
  rw [e]
end
end Go.Proofs.YtllfmlgnemkklaaDoor.tq

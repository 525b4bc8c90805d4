import Derived.Test.YtmcpljgojdoniaaDoorTxP
/- Layer 17: logs and receipts as arguments (only the way down: Below.trod goes up). -/
namespace Go.Proofs.YtmcpljgojdoniaaDoor.tq
open Go.ChangeShapes Go.WideShapes Go.ChangeAt Go.RowKit Go.Deep
theorem cells_lgN : Tryd.prog.cellsOf 58 = 22 := by kernel_rfl
theorem cells_hsR : Tryd.prog.cellsOf 45 = 1 := by kernel_rfl
theorem cells_lsN : Tryd.prog.cellsOf 28 = 1 := by kernel_rfl
theorem cells_blN : Tryd.prog.cellsOf 27 = 256 := by kernel_rfl
theorem cells_rcN : Tryd.prog.cellsOf 30 = 293 := by kernel_rfl
/-- A log. -/
structure Lg where
  adr : List Int
  Ta : Option Addr
  Tb : Nat
  To : Nat
  Tc : Nat
  Tl : List (List Int)
  Da : Option Addr
  Db : Nat
  Do : Nat
  Dc : Nat
  Dl : List Int
def zLg : Lg := ⟨[], none, 0, 0, 0, [], none, 0, 0, 0, []⟩
def lgC (l : Lg) : List Value := hC l.adr ++ ([.slice l.Ta l.Tl.length l.Tc] ++ [.slice l.Da l.Dl.length l.Dc])
structure LgG (W : World) (l : Lg) : Prop where
  adr : l.adr.length = 20 ∧ Bys l.adr
  T : KsG W l.Ta l.Tb l.To l.Tc l.Tl
  D : BtG W l.Da l.Db l.Do l.Dc l.Dl
def lgW (l : Lg) : Nat := 22 + sumW (fun X => X.length + 1) l.Tl + l.Dl.length
theorem lgC_len {l : Lg} (h : l.adr.length = 20) : (lgC l).length = 22 := by simp [lgC, hC, h]
def LsG (W : World) (a : Option Addr) (b o c : Nat) (ls : List Lg) : Prop := (ls.length ≤ c ∧ (a = none → c = 0)) ∧ (ls = [] ∨ a = some ⟨b, o, none⟩) ∧ ∀ i, i < ls.length → LgG W (ls.getD i zLg) ∧ W.rangeAt b (o + i * 22) (lgC (ls.getD i zLg))
/-- A receipt. -/
structure Rc where
  ty : Int
  rt : Bool
  root : List Int
  st : Int
  us : Int
  bl : List Int
  La : Option Addr
  Lb : Nat
  Lo : Nat
  Lc : Nat
  Ll : List Lg
def zRc : Rc := ⟨0, false, [], 0, 0, [], none, 0, 0, 0, []⟩
def rcC (r : Rc) : List Value := [.int .i64 r.ty] ++ ([.bool r.rt] ++ (hC r.root ++ ([.int .u64 r.st] ++ ([.int .u64 r.us] ++ (hC r.bl ++ [.slice r.La r.Ll.length r.Lc])))))
structure RcG (W : World) (r : Rc) : Prop where
  ty : (Lit.int .i64 r.ty).wf = true
  root : r.root.length = 32 ∧ Bys r.root
  st : Word r.st
  us : Word r.us
  bl : r.bl.length = 256 ∧ Bys r.bl
  L : LsG W r.La r.Lb r.Lo r.Lc r.Ll
def rcW (r : Rc) : Nat := 1 + sumW lgW r.Ll
theorem rcC_len {r : Rc} (h : r.root.length = 32) (h2 : r.bl.length = 256) : (rcC r).length = 293 := by simp [rcC, hC, h, h2]
def RsG (W : World) (a : Option Addr) (b o c : Nat) (rs : List Rc) : Prop := (rs.length ≤ c ∧ (a = none → c = 0)) ∧ (rs = [] ∨ a = some ⟨b, o, none⟩) ∧ ∀ i, i < rs.length → RcG W (rs.getD i zRc) ∧ W.rangeAt b (o + i * 293) (rcC (rs.getD i zRc))
section
variable {H : Type} {enc : TypeId × Value → H} {W : World}
set_option maxRecDepth 10000 in
theorem cells_lg {fuel : Nat} {cs : List Value} {x : DataW H × List MemPlace} (hf : DataW.trod enc Tryd.prog W 0 (fun _ => true) true fuel 58 cs = some x) : ∃ e, LgG W e ∧ cs = lgC e ∧ lgW e ≤ Rows.uptoBulk x.1 := by
  obtain ⟨xs, m, hfu, hxx, hl, hn, hi⟩ := DataW.trod_struct Tryd.underlying58 hf
  rw [cells_lgN] at hl
  match xs, hn with
  | [y0, y1, y2], _ =>
    have a0 : DataW.trod enc Tryd.prog W 0 (fun _ => true) true m 54 (List.take (Tryd.prog.cellsOf 54) (List.drop 0 cs)) = some y0 := hi 0 _ rfl
    have a1 : DataW.trod enc Tryd.prog W 0 (fun _ => true) true m 45 (List.take (Tryd.prog.cellsOf 45) (List.drop 20 cs)) = some y1 := hi 1 _ rfl
    have a2 : DataW.trod enc Tryd.prog W 0 (fun _ => true) true m 56 (List.take (Tryd.prog.cellsOf 56) (List.drop 21 cs)) = some y2 := hi 2 _ rfl
    obtain ⟨A, gA, eA, bA⟩ := cells_arr Tryd.underlying54 cells_adN a0
    obtain ⟨a, b, o, c, ks, ek, gk, bk⟩ := cells_has a1
    obtain ⟨p, q, r, s, X, eX, g1, g2, g3, g4, bX⟩ := cells_bytes a2
    rw [cells_adN] at eA
    rw [cells_hsR] at ek
    rw [cellsB] at eX
    refine ⟨⟨A, a, b, o, c, ks, p, q, r, s, X⟩, ⟨gA, gk, g1, g2, g3, g4⟩, ?_, ?_⟩
    · have := pcs_all [20, 1, 1] 0 cs (by rw [hl]; rfl)
      rw [List.drop_zero] at this
      rw [← this]
      simp only [pcs, Nat.zero_add, Nat.reduceAdd, List.append_nil]
      rw [eA, ek, eX]
      rfl
    · rw [hxx, lgW]
      simp only [List.map_cons, List.map_nil, Rows.uptoBulk, Rows.uptoBulkAll]
      have := gA.1
      omega
theorem cells_lgs {fuel : Nat} {cs : List Value} {x : DataW H × List MemPlace} (hf : DataW.trod enc Tryd.prog W 0 (fun _ => true) true fuel 28 cs = some x) :
    ∃ (a : Option Addr) (b o c : Nat) (ls : List Lg), cs = [.slice a ls.length c] ∧ LsG W a b o c ls ∧ sumW lgW ls + 1 ≤ Rows.uptoBulk x.1 := by
  obtain ⟨a, b, o, c, L, h1, h2, h3, h4, h5⟩ := cells_rows (k := 22) zLg lgC lgW (LgG W) Tryd.underlying28 cells_lgN (by decide) (fun e h => lgC_len h.adr.1) (fun n _ cs x h => cells_lg h) hf
  exact ⟨a, b, o, c, L, h1, ⟨h2, h3, h4⟩, h5⟩
set_option maxRecDepth 100000 in
theorem cells_rc {fuel : Nat} {cs : List Value} {x : DataW H × List MemPlace} (hf : DataW.trod enc Tryd.prog W 0 (fun _ => true) true fuel 30 cs = some x) : ∃ t, RcG W t ∧ cs = rcC t ∧ rcW t ≤ Rows.uptoBulk x.1 := by
  obtain ⟨xs, m, hfu, hxx, hl, hn, hi⟩ := DataW.trod_struct Tryd.underlying30 hf
  rw [cells_rcN] at hl
  match xs, hn with
  | [y0, y1, y2, y3, y4, y5, y6], _ =>
    have a0 : DataW.trod enc Tryd.prog W 0 (fun _ => true) true m 3 (List.take (Tryd.prog.cellsOf 3) (List.drop 0 cs)) = some y0 := hi 0 _ rfl
    rw [cellsI] at a0
    have a1 : DataW.trod enc Tryd.prog W 0 (fun _ => true) true m 4 (List.take (Tryd.prog.cellsOf 4) (List.drop 1 cs)) = some y1 := hi 1 _ rfl
    rw [cellsO] at a1
    have a2 : DataW.trod enc Tryd.prog W 0 (fun _ => true) true m 24 (List.take (Tryd.prog.cellsOf 24) (List.drop 2 cs)) = some y2 := hi 2 _ rfl
    rw [cells_haN] at a2
    have a3 : DataW.trod enc Tryd.prog W 0 (fun _ => true) true m 25 (List.take (Tryd.prog.cellsOf 25) (List.drop 34 cs)) = some y3 := hi 3 _ rfl
    rw [cells_u64X] at a3
    have a4 : DataW.trod enc Tryd.prog W 0 (fun _ => true) true m 25 (List.take (Tryd.prog.cellsOf 25) (List.drop 35 cs)) = some y4 := hi 4 _ rfl
    rw [cells_u64X] at a4
    have a5 : DataW.trod enc Tryd.prog W 0 (fun _ => true) true m 27 (List.take (Tryd.prog.cellsOf 27) (List.drop 36 cs)) = some y5 := hi 5 _ rfl
    rw [cells_blN] at a5
    have a6 : DataW.trod enc Tryd.prog W 0 (fun _ => true) true m 28 (List.take (Tryd.prog.cellsOf 28) (List.drop 292 cs)) = some y6 := hi 6 _ rfl
    rw [cells_lsN] at a6
    obtain ⟨v0, e0, _, w0⟩ := DataW.trod_int Tryd.underlying3 a0
    obtain ⟨v1, e1, _⟩ := DataW.trod_bool Tryd.underlying4 a1
    obtain ⟨v2, w2, e2, _⟩ := cells_arr Tryd.underlying24 cells_haN a2
    obtain ⟨v3, e3, _, w3⟩ := DataW.trod_int Tryd.underlying25 a3
    obtain ⟨v4, e4, _, w4⟩ := DataW.trod_int Tryd.underlying25 a4
    obtain ⟨v5, w5, e5, _⟩ := cells_arr Tryd.underlying27 cells_blN a5
    obtain ⟨p6, q6, r6, s6, v6, e6, w6, b6⟩ := cells_lgs a6
    refine ⟨⟨v0, v1, v2, v3, v4, v5, p6, q6, r6, s6, v6⟩, ⟨w0, w2, word_of_wf w3, word_of_wf w4, w5, w6⟩, ?_, ?_⟩
    · have := pcs_all [1, 1, 32, 1, 1, 256, 1] 0 cs (by rw [hl]; rfl)
      rw [List.drop_zero] at this
      rw [← this]
      simp only [pcs, Nat.zero_add, Nat.reduceAdd, List.append_nil]
      rw [e0, e1, e2, e3, e4, e5, e6]
      rfl
    · rw [hxx, rcW]
      simp only [List.map_cons, List.map_nil, Rows.uptoBulk, Rows.uptoBulkAll]
      omega
theorem cells_rcs {fuel : Nat} {cs : List Value} {x : DataW H × List MemPlace} (hf : DataW.trod enc Tryd.prog W 0 (fun _ => true) true fuel 22 cs = some x) :
    ∃ (a : Option Addr) (b o c : Nat) (rs : List Rc), cs = [.slice a rs.length c] ∧ RsG W a b o c rs ∧ sumW rcW rs + 1 ≤ Rows.uptoBulk x.1 := by
  obtain ⟨a, b, o, c, L, h1, h2, h3, h4, h5⟩ := cells_rows (k := 293) zRc rcC rcW (RcG W) Tryd.underlying22 cells_rcN (by decide) (fun e h => rcC_len h.root.1 h.bl.1) (fun n _ cs x h => cells_rc h) hf
  exact ⟨a, b, o, c, L, h1, ⟨h2, h3, h4⟩, h5⟩
theorem slice_of {v : Value} {a : Option Addr} {n c : Nat} (hv : ∃ a n c, v = .slice a n c) (h : v.cells.toList = [.slice a n c]) : v = .slice a n c := by
  obtain ⟨a1, n1, c1, rfl⟩ := hv
  simpa [Value.cells] using h
theorem open_rcs {base : Nat} {v : Value} {d : DataW H} {p : List MemPlace} (hval : Value.okWide Tryd.prog W .any base 22 v) (h : DataW.Trod enc Tryd.prog W 0 (fun _ => true) true 22 v d p) :
    ∃ (a : Option Addr) (b o c : Nat) (L : List Rc), v = .slice a L.length c ∧ RsG W a b o c L ∧ sumW rcW L + 1 ≤ Rows.uptoBulk d := by
  have hv := okWide_slice Tryd.underlying22 hval
  obtain ⟨fuel, hf⟩ := h
  obtain ⟨a, b, o, c, L, h1, h2, h3⟩ := cells_rcs hf
  exact ⟨a, b, o, c, L, slice_of hv h1, h2, h3⟩
end
end Go.Proofs.YtmcpljgojdoniaaDoor.tq

import Derived.Test.YtcjabligkeaafaaDoorTxP
/- Layer 17: logs and receipts as arguments (only the way down: Below.trod goes up). -/
namespace Go.Proofs.YtcjabligkeaafaaDoor.tq
open Go.ChangeShapes Go.WideShapes Go.ChangeAt Go.RowKit Go.Deep
theorem cells_lgN : Tryd.prog.cellsOf 33 = 22 := by kernel_rfl
theorem cells_hsR : Tryd.prog.cellsOf 30 = 1 := by kernel_rfl
/-- A log. -/
structure Lg where
  adr : List Int
  Ta : Option Addr
  Tb : Nat
  To : Nat
  Tc : Nat
  Tl : List (List Int)
  Da : Option Addr
  Db : Nat
  Do : Nat
  Dc : Nat
  Dl : List Int
def zLg : Lg := ⟨[], none, 0, 0, 0, [], none, 0, 0, 0, []⟩
def lgC (l : Lg) : List Value := hC l.adr ++ ([.slice l.Ta l.Tl.length l.Tc] ++ [.slice l.Da l.Dl.length l.Dc])
structure LgG (W : World) (l : Lg) : Prop where
  adr : l.adr.length = 20 ∧ Bys l.adr
  T : KsG W l.Ta l.Tb l.To l.Tc l.Tl
  D : BtG W l.Da l.Db l.Do l.Dc l.Dl
def lgW (l : Lg) : Nat := 22 + sumW (fun X => X.length + 1) l.Tl + l.Dl.length
theorem lgC_len {l : Lg} (h : l.adr.length = 20) : (lgC l).length = 22 := by simp [lgC, hC, h]
def LsG (W : World) (a : Option Addr) (b o c : Nat) (ls : List Lg) : Prop := (ls.length ≤ c ∧ (a = none → c = 0)) ∧ (ls = [] ∨ a = some ⟨b, o, none⟩) ∧ ∀ i, i < ls.length → LgG W (ls.getD i zLg) ∧ W.rangeAt b (o + i * 22) (lgC (ls.getD i zLg))
section
variable {H : Type} {enc : TypeId × Value → H} {W : World}
set_option maxRecDepth 10000 in
theorem cells_lg {fuel : Nat} {cs : List Value} {x : DataW H × List MemPlace} (hf : DataW.trod enc Tryd.prog W 0 (fun _ => true) true fuel 33 cs = some x) : ∃ e, LgG W e ∧ cs = lgC e ∧ lgW e ≤ Rows.uptoBulk x.1 := by
  obtain ⟨xs, m, hfu, hxx, hl, hn, hi⟩ := DataW.trod_struct Tryd.underlying33 hf
  rw [cells_lgN] at hl
  match xs, hn with
  | [y0, y1, y2], _ =>
    have a0 : DataW.trod enc Tryd.prog W 0 (fun _ => true) true m 24 (List.take (Tryd.prog.cellsOf 24) (List.drop 0 cs)) = some y0 := hi 0 _ rfl
    have a1 : DataW.trod enc Tryd.prog W 0 (fun _ => true) true m 30 (List.take (Tryd.prog.cellsOf 30) (List.drop 20 cs)) = some y1 := hi 1 _ rfl
    have a2 : DataW.trod enc Tryd.prog W 0 (fun _ => true) true m 31 (List.take (Tryd.prog.cellsOf 31) (List.drop 21 cs)) = some y2 := hi 2 _ rfl
    obtain ⟨A, gA, eA, bA⟩ := cells_arr Tryd.underlying24 cells_adN a0
    obtain ⟨a, b, o, c, ks, ek, gk, bk⟩ := cells_has a1
    obtain ⟨p, q, r, s, X, eX, g1, g2, g3, g4, bX⟩ := cells_bytes a2
    rw [cells_adN] at eA
    rw [cells_hsR] at ek
    rw [cellsB] at eX
    refine ⟨⟨A, a, b, o, c, ks, p, q, r, s, X⟩, ⟨gA, gk, g1, g2, g3, g4⟩, ?_, ?_⟩
    · have := pcs_all [20, 1, 1] 0 cs (by rw [hl]; rfl)
      rw [List.drop_zero] at this
      rw [← this]
      simp only [pcs, Nat.zero_add, Nat.reduceAdd, List.append_nil]
      rw [eA, ek, eX]
      rfl
    · rw [hxx, lgW]
      simp only [List.map_cons, List.map_nil, Rows.uptoBulk, Rows.uptoBulkAll]
      have := gA.1
      omega
theorem cells_lgs {fuel : Nat} {cs : List Value} {x : DataW H × List MemPlace} (hf : DataW.trod enc Tryd.prog W 0 (fun _ => true) true fuel 22 cs = some x) :
    ∃ (a : Option Addr) (b o c : Nat) (ls : List Lg), cs = [.slice a ls.length c] ∧ LsG W a b o c ls ∧ sumW lgW ls + 1 ≤ Rows.uptoBulk x.1 := by
  obtain ⟨a, b, o, c, L, h1, h2, h3, h4, h5⟩ := cells_rows (k := 22) zLg lgC lgW (LgG W) Tryd.underlying22 cells_lgN (by decide) (fun e h => lgC_len h.adr.1) (fun n _ cs x h => cells_lg h) hf
  exact ⟨a, b, o, c, L, h1, ⟨h2, h3, h4⟩, h5⟩
/-- A list of digests as one cell. -/
structure Kl where
  a : Option Addr
  b : Nat
  o : Nat
  c : Nat
  ks : List (List Int)
def zKl : Kl := ⟨none, 0, 0, 0, []⟩
def klC (k : Kl) : List Value := [.slice k.a k.ks.length k.c]
def KlG (W : World) (k : Kl) : Prop := KsG W k.a k.b k.o k.c k.ks
def KssG (W : World) (a : Option Addr) (b o c : Nat) (L : List Kl) : Prop := (L.length ≤ c ∧ (a = none → c = 0)) ∧ (L = [] ∨ a = some ⟨b, o, none⟩) ∧ ∀ i, i < L.length → KlG W (L.getD i zKl) ∧ W.rangeAt b (o + i * 1) (klC (L.getD i zKl))
/-- An address. -/
def AdG (X : List Int) : Prop := X.length = 20 ∧ Bys X
def AsG (W : World) (a : Option Addr) (b o c : Nat) (ks : List (List Int)) : Prop := (ks.length ≤ c ∧ (a = none → c = 0)) ∧ (ks = [] ∨ a = some ⟨b, o, none⟩) ∧ ∀ i, i < ks.length → AdG (ks.getD i []) ∧ W.rangeAt b (o + i * 20) (hC (ks.getD i []))
theorem slice_of {v : Value} {a : Option Addr} {n c : Nat} (hv : ∃ a n c, v = .slice a n c) (h : v.cells.toList = [.slice a n c]) : v = .slice a n c := by
  obtain ⟨a1, n1, c1, rfl⟩ := hv
  simpa [Value.cells] using h
theorem open_lgs {base : Nat} {v : Value} {d : DataW H} {p : List MemPlace} (hval : Value.okWide Tryd.prog W .any base 22 v) (h : DataW.Trod enc Tryd.prog W 0 (fun _ => true) true 22 v d p) :
    ∃ (a : Option Addr) (b o c : Nat) (L : List Lg), v = .slice a L.length c ∧ LsG W a b o c L ∧ sumW lgW L + 1 ≤ Rows.uptoBulk d := by
  have hv := okWide_slice Tryd.underlying22 hval
  obtain ⟨fuel, hf⟩ := h
  obtain ⟨a, b, o, c, L, h1, h2, h3⟩ := cells_lgs hf
  exact ⟨a, b, o, c, L, slice_of hv h1, h2, h3⟩
end
end Go.Proofs.YtcjabligkeaafaaDoor.tq

import Derived.Test.YtmcpljgojdoniaaDoorRcC
import Derived.Test.YtmcpljgojdoniaaDoorTsN
/- A receipt lent: what LentReceipt makes. -/
namespace Go.Proofs.YtmcpljgojdoniaaDoor.tq
open Go.RowKit Go.Sort
def mkL : Lg := ⟨mkAd, none, 0, 0, 0, [], none, 0, 0, 0, []⟩
theorem rI_r : rowInfo Tryd.prog 30 293 344 = true := by kernel_rfl
theorem rI_g : rowInfo Tryd.prog 58 22 72 = true := by kernel_rfl
theorem size_rc : (Tryd.prog.info? 30).map (·.size) = some 293 := by kernel_rfl
theorem size_lg : (Tryd.prog.info? 58).map (·.size) = some 22 := by kernel_rfl
theorem size_1l : (Tryd.prog.info? 28).map (·.size) = some 1 := by kernel_rfl
theorem lgC_one (l : Lg) : ∀ u ∈ lgC l, u.oneCell' = true := fun u hu => by
  unfold lgC at hu
  simp only [List.mem_append, List.mem_cons, List.not_mem_nil, or_false] at hu
  rcases hu with h | h | h
  · exact hC_one _ u h
  · subst h; rfl
  · subst h; rfl
theorem rcC_one (r : Rc) : ∀ u ∈ rcC r, u.oneCell' = true := fun u hu => by
  unfold rcC at hu
  simp only [List.mem_append, List.mem_cons, List.not_mem_nil, or_false] at hu
  rcases hu with h | h | h | h | h | h | h
  all_goals first
    | (exact hC_one _ u h)
    | (subst h; rfl)
theorem lgs_one (L : List Lg) : ∀ u ∈ flatC lgC L, u.oneCell' = true := flat_one L fun x _ => lgC_one x
/-- A log lent. -/
structure LgM (W : World) (e x : Lg) : Prop where
  adr : e.adr = x.adr
  Tl : e.Tl = x.Tl
  Dl : e.Dl = x.Dl
  T : e.Ta = some ⟨e.Tb, 0, none⟩ ∧ e.To = 0 ∧ x.Tl.length + 2 ≤ e.Tc ∧ W.rangeAt e.Tb 0 (flatC hC (x.Tl ++ [mkHs, mkHs]))
  D : e.Da = some ⟨e.Db, 0, none⟩ ∧ e.Do = 0 ∧ x.Dl.length + 70 ≤ e.Dc ∧ W.rangeAt e.Db 0 (hC (lentT x.Dl))
theorem LgM.keep {W W' : World} {e x : Lg} (h : LgM W e x) (B : Below W.heap.size W W') : LgM W' e x := ⟨h.adr, h.Tl, h.Dl, ⟨h.T.1, h.T.2.1, h.T.2.2.1, range_keep h.T.2.2.2 B⟩, ⟨h.D.1, h.D.2.1, h.D.2.2.1, range_keep h.D.2.2.2 B⟩⟩
theorem LgM.grown {W W' : World} {e x : Lg} {row : Option Nat} (h : LgM W e x) (g : W.grownBy W' row) (n1 : row ≠ some e.Tb) (n2 : row ≠ some e.Db) : LgM W' e x := ⟨h.adr, h.Tl, h.Dl, ⟨h.T.1, h.T.2.1, h.T.2.2.1, range_grown h.T.2.2.2 g n1⟩, ⟨h.D.1, h.D.2.1, h.D.2.2.1, range_grown h.D.2.2.2 g n2⟩⟩
theorem LgM.same {W W' : World} {e x : Lg} (h : LgM W e x) (n1 : W'.heap[e.Tb]? = W.heap[e.Tb]?) (n2 : W'.heap[e.Db]? = W.heap[e.Db]?) : LgM W' e x := ⟨h.adr, h.Tl, h.Dl, ⟨h.T.1, h.T.2.1, h.T.2.2.1, range_same h.T.2.2.2 n1⟩, ⟨h.D.1, h.D.2.1, h.D.2.2.1, range_same h.D.2.2.2 n2⟩⟩
/-- A receipt lent. -/
structure RcM (W : World) (u r : Rc) : Prop where
  sc : u.ty = r.ty ∧ u.rt = r.rt ∧ u.root = r.root ∧ u.st = r.st ∧ u.us = r.us ∧ u.bl = r.bl
  L : u.Ll.length = r.Ll.length ∧ u.La = some ⟨u.Lb, 0, none⟩ ∧ u.Lo = 0 ∧ r.Ll.length + 2 ≤ u.Lc ∧ W.rangeAt u.Lb 0 (flatC lgC (u.Ll ++ [mkL, mkL]))
  ls : ∀ i, i < r.Ll.length → LgM W (u.Ll.getD i zLg) (r.Ll.getD i zLg)
theorem RcM.keep {W W' : World} {u r : Rc} (h : RcM W u r) (B : Below W.heap.size W W') : RcM W' u r := ⟨h.sc, ⟨h.L.1, h.L.2.1, h.L.2.2.1, h.L.2.2.2.1, range_keep h.L.2.2.2.2 B⟩, fun i hi => (h.ls i hi).keep B⟩
/-- Where it lies: in no block below n. -/
def RcP (n : Nat) (u r : Rc) : Prop := n ≤ u.Lb ∧ ∀ i, i < r.Ll.length → n ≤ (u.Ll.getD i zLg).Tb ∧ n ≤ (u.Ll.getD i zLg).Db
theorem RcM.but {W W' : World} {u r : Rc} {n b : Nat} (h : RcM W u r) (p : RcP n u r) (q : But W W' b) (hb : b < n) : RcM W' u r :=
  have k : ∀ x, n ≤ x → W'.heap[x]? = W.heap[x]? := fun x hx => q.block x (by omega)
  ⟨h.sc, ⟨h.L.1, h.L.2.1, h.L.2.2.1, h.L.2.2.2.1, range_same h.L.2.2.2.2 (k _ p.1)⟩, fun i hi => (h.ls i hi).same (k _ (p.2 i hi).1) (k _ (p.2 i hi).2)⟩
def BdR (r : Rc) : Prop := r.Ll.length < 100000000 ∧ ∀ i, i < r.Ll.length → (r.Ll.getD i zLg).Tl.length < 1000000000 ∧ (r.Ll.getD i zLg).Dl.length < 1000000000
theorem LgG.keep {W W' : World} {l : Lg} (h : LgG W l) (B : Below W.heap.size W W') : LgG W' l := ⟨h.adr, h.T.keep B, h.D.keep B⟩
theorem LsG.keep {W W' : World} {a : Option Addr} {b o c : Nat} {ls : List Lg} (h : LsG W a b o c ls) (B : Below W.heap.size W W') : LsG W' a b o c ls := ⟨h.1, h.2.1, fun i hi => ⟨(h.2.2 i hi).1.keep B, range_keep (h.2.2 i hi).2 B⟩⟩
theorem RcG.keep {W W' : World} {r : Rc} (h : RcG W r) (B : Below W.heap.size W W') : RcG W' r := ⟨h.ty, h.root, h.st, h.us, h.bl, h.L.keep B⟩
theorem RsG.keep {W W' : World} {a : Option Addr} {b o c : Nat} {rs : List Rc} (h : RsG W a b o c rs) (B : Below W.heap.size W W') : RsG W' a b o c rs := ⟨h.1, h.2.1, fun i hi => ⟨(h.2.2 i hi).1.keep B, range_keep (h.2.2 i hi).2 B⟩⟩
/-- A receipt's last field. -/
def rcH (r : Rc) : List Value := [.int .i64 r.ty] ++ ([.bool r.rt] ++ (hC r.root ++ ([.int .u64 r.st] ++ ([.int .u64 r.us] ++ hC r.bl))))
theorem rcC_cut (r : Rc) : rcC r = rcH r ++ [.slice r.La r.Ll.length r.Lc] := by simp [rcC, rcH]
theorem rcH_len {r : Rc} (h : r.root.length = 32) (h2 : r.bl.length = 256) : (rcH r).length = 292 := by simp [rcH, hC, h, h2]
theorem rc_last {W : World} {b o : Nat} {r : Rc} (h : r.root.length = 32) (h2 : r.bl.length = 256) (hr : W.rangeAt b o (rcC r)) : W.cell? ⟨b, o + 292, none⟩ = some (.slice r.La r.Ll.length r.Lc) := by
  rw [rcC_cut, range_app, rcH_len h h2] at hr
  exact hr.2 0 _ rfl
theorem rc_used {W : World} {b o : Nat} {r : Rc} (h : r.root.length = 32) (hr : W.rangeAt b o (rcC r)) : W.cell? ⟨b, o + 35, none⟩ = some (.int .u64 r.us) := by
  unfold rcC at hr
  have h1 := (range_app.1 hr).2
  have h2 := (range_app.1 h1).2
  have h3 := (range_app.1 h2).2
  rw [hC_len, h] at h3
  have h4 := (range_app.1 h3).2
  have := (range_app.1 h4).1 0 _ rfl
  simpa [Nat.add_assoc] using this
theorem rcC_set {r : Rc} (h : r.root.length = 32) (h2 : r.bl.length = 256) (g c : Nat) (es : List Lg) (he : es.length = r.Ll.length) : (rcC r).set 292 (.slice (some ⟨g, 0, none⟩) r.Ll.length c) = rcC { r with La := some ⟨g, 0, none⟩, Lb := g, Lo := 0, Lc := c, Ll := es } := by
  have e1 := rcH_len h h2
  rw [rcC_cut, rcC_cut, ← e1, List.set_append_right _ _ (Nat.le_refl _), Nat.sub_self, List.set_cons_zero, he]
  rfl
end Go.Proofs.YtmcpljgojdoniaaDoor.tq

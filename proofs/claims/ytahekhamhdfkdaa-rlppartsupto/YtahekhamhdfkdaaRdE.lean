import Derived.Test.YtahekhamhdfkdaaRdC
import Derived.WalkMore
import Derived.Test.YtahekhamhdfkdaaRxD
/- Layer 7: Decode's machine. -/
namespace Go.Proofs.Ytahekhamhdfkdaa
open Go.RowKit Go.Sort
end Go.Proofs.Ytahekhamhdfkdaa

/- Layer 7: Decode's machine. -/
namespace Go.Proofs.Ytahekhamhdfkdaa
open Go.RowKit Go.Sort
theorem Stk.row {B : Nat} {W : World} {sv v : Value} {e : Nat} {ts : List Tr} {L : List LvT} {M : Nat} (h : Stk B W sv ((e, ts, v) :: L) M) : ∃ ps : List (Value × Value), ps.length = ts.length ∧ W.ownsRow 0 26 3 v ts.length (itC ts ps) ∧ (∀ k, v.ownBlock = some k → B ≤ k ∧ sv.ownBlock ≠ some k) ∧ ∃ va vc, v = .slice va ts.length vc := by
  obtain ⟨_, h2, _⟩ := h
  rw [Lv7] at h2
  obtain ⟨m, _, ⟨ps, p1, p2, p3, _⟩, k3⟩ := h2
  have hb := k3.base
  refine ⟨ps, p1, p2, fun k hk => ⟨?_, (p3 k hk).2.2⟩, ?_⟩
  · have := (p3 k hk).1; omega
  · rcases p2.2 with ⟨x, y⟩ | ⟨g, cap, _, x, _⟩
    · simp only at x y
      exact ⟨none, 0, by rw [x, y]⟩
    · exact ⟨_, cap, x⟩
end Go.Proofs.Ytahekhamhdfkdaa

/- Layer 7: the document's item: a list. -/
namespace Go.Proofs.Ytahekhamhdfkdaa
open Go.RowKit Go.Sort
/-- What the loop of item holds. -/
structure Li (w W : World) (hb : Nat) (s t : Nat) (v : Value) (us : List Tr) (ps : List (Value × Value)) : Prop where
  below : Below w.heap.size w W
  hlt : w.heap.size < hb
  res : W.there w.heap.size 0 3
  hd : Hb W hb true (s : Int) (t : Int)
  it : W.rangeAt (hb + 1) 0 [.bool true, .slice none 0 0, v]
  itw : W.there (hb + 1) 0 3
  oe : Oe (hb + 2) W v us ps
theorem there_lt {W : World} {b o n : Nat} (h : W.there b o n) (hn : 0 < n) : b < W.heap.size := World.block_lt_of_cell? W _ (Option.isSome_iff_exists.1 (h 0 hn).1).choose_spec
theorem there_keep {W W' : World} {b o n : Nat} (h : W.there b o n) (hb : Below W.heap.size W W') (hn : 0 < n) : W'.there b o n := there_chg (S := fun _ => False) (ChgT.of_below hb) (fun x => x) (there_lt h hn) h
theorem Li.keep {w W W' : World} {hb s t : Nat} {v : Value} {us : List Tr} {ps : List (Value × Value)} (h : Li w W hb s t v us ps) (k : Below W.heap.size W W') : Li w W' hb s t v us ps :=
  ⟨h.below.trans (k.mono h.below.size), h.hlt, there_keep h.res k (by omega), h.hd.keep k, rangeT_keep h.it k, there_keep h.itw k (by omega), h.oe.keep k⟩
/-- One more item: 'it.Items = append(it.Items, x)'. -/
theorem Li.put {w W : World} {hb s t : Nat} {v : Value} {us : List Tr} {ps : List (Value × Value)} (h : Li w W hb s t v us ps) (vs : List Value) : Li w (W.setCells w.heap.size 0 vs) hb s t v us ps := by
  have c := chg_setCells w.heap.size vs 0 W
  have hs := h.hlt
  have hl := h.hd.lt
  have il := there_lt h.itw (by omega)
  obtain ⟨e1, e2, e3, e4⟩ := h.oe
  exact ⟨h.below.trans (c.below h.below.size fun k hk => by omega), hs, World.there_setCells h.res _ _ _, ⟨c.cell (by omega) h.hd.1, c.cell (by omega) h.hd.2.1, c.cell (by omega) h.hd.2.2⟩, World.rangeAt_setCells_apart h.it _ _ _ (.inl (by omega)), World.there_setCells h.itw _ _ _, e1, row_kept e2 fun k x hk => c.block k hk (by have := e3 k x; omega), e3, Ots.of fun i hi => Ot.conv _ (fun k hk hS => ⟨hS, c.block k hk (by have := hS.1; omega)⟩) (e4.at i hi)⟩
theorem there_setCells7 {W : World} {b b' o n i : Nat} {v : Value} (h : W.there b' o n) : (W.setCell ⟨b, i, none⟩ v).there b' o n := World.there_setCells h b i [v]
/-- One more item: 'it.Items = append(it.Items, x)'. -/
theorem Li.step {w W W1 W2 : World} {hb s t : Nat} {v v' d q : Value} {us : List Tr} {u : Tr} {ps : List (Value × Value)} (h : Li w W hb s t v us ps) (k1 : Below W.heap.size W W1) (ou : Ot W1 u (fun j => hb + 2 ≤ j ∧ v.ownBlock ≠ some j) d q)
    (ho : W2.ownsRow (hb + 2) 26 3 v' (us.length + 1) (itC us ps ++ [.bool u.l, d, q])) (hg : W1.grownBy W2 v.ownBlock) (hv : v'.ownBlock = v.ownBlock ∨ v'.ownBlock = some W1.heap.size) :
    Li w (W2.setCell ⟨hb + 1, 2, none⟩ v') hb s t v' (us ++ [u]) (ps ++ [(d, q)]) := by
  have h1 := h.keep k1
  have lb : hb + 1 < W1.heap.size := there_lt h1.itw (by omega)
  have vb : ∀ k, v.ownBlock = some k → hb + 2 ≤ k := h.oe.2.2.1
  have bl : ∀ j, j < hb + 2 → j < W1.heap.size → W2.heap[j]? = W1.heap[j]? := fun j hj hj2 => hg.block j hj2 fun x => by have := vb j x.symm; omega
  have oe2 := Oe.step h1.oe ou (by omega) ho hg hv
  have c2 : ChgT (fun k => k = hb + 1) W2 (W2.setCell ⟨hb + 1, 2, none⟩ v') := chg_setCells (hb + 1) [v'] 2 W2
  have c1 : ChgT (fun k => hb + 2 ≤ k) W1 W2 := ⟨hg.os, hg.tape, hg.output, hg.size, fun j hj hn => bl j (by omega) hj⟩
  have hs := h.hlt
  have hdl := h1.hd.lt
  have it2 : W2.there (hb + 1) 0 3 := there_chg c1 (by omega) lb h1.itw
  refine ⟨h1.below.trans ((c1.below h1.below.size fun k hk => by omega).trans (c2.below (by have := h1.below.size; have := hg.size; omega) fun k hk => by omega)), hs, there_chg c2 (by omega) (by have := hg.size; omega) (there_chg c1 (by omega) (by omega) h1.res), ?_, ?_, there_setCells7 it2, ?_⟩
  · exact ⟨c2.cell (by omega) (c1.cell (by omega) h1.hd.1), c2.cell (by omega) (c1.cell (by omega) h1.hd.2.1), c2.cell (by omega) (c1.cell (by omega) h1.hd.2.2)⟩
  · have r0 : W2.cell? ⟨hb + 1, 0, none⟩ = some (.bool true) := c1.cell (by omega) (h1.it 0 _ rfl)
    have r1 : W2.cell? ⟨hb + 1, 1, none⟩ = some (.slice none 0 0) := c1.cell (by omega) (h1.it 1 _ rfl)
    have r2 : W2.cell? ⟨hb + 1, 2, none⟩ = some v := c1.cell (by omega) (h1.it 2 _ rfl)
    intro j x hx
    rw [Nat.zero_add]
    match j, hx with
    | 0, hx => simp at hx; subst hx; simp [go_sem, r0]
    | 1, hx => simp at hx; subst hx; simp [go_sem, r1]
    | 2, hx => simp at hx; subst hx; simp [go_sem, r2]
    | j + 3, hx => simp at hx
  · obtain ⟨e1, e2, e3, e4⟩ := oe2
    refine ⟨e1, row_kept e2 fun k x hk => c2.block k hk (by have := e3 k x; omega), e3, Ots.of fun i hi => Ot.conv _ (fun k hk hS => ⟨hS, c2.block k hk (by have := hS.1; omega)⟩) (e4.at i hi)⟩
end Go.Proofs.Ytahekhamhdfkdaa

/- Layer 7: Decode's machine. -/
namespace Go.Proofs.Ytahekhamhdfkdaa
open Go.RowKit Go.Sort
end Go.Proofs.Ytahekhamhdfkdaa

/- Layer 7: Decode's machine. -/
namespace Go.Proofs.Ytahekhamhdfkdaa
open Go.RowKit Go.Sort
end Go.Proofs.Ytahekhamhdfkdaa

/- Layer 7: the document's item and Decode, of any bytes. -/
namespace Go.Proofs.Ytahekhamhdfkdaa
open Go.RowKit Go.Sort
end Go.Proofs.Ytahekhamhdfkdaa

/- Layer 7: Decode's machine. -/
namespace Go.Proofs.Ytahekhamhdfkdaa
open Go.RowKit Go.Sort
end Go.Proofs.Ytahekhamhdfkdaa

/- Layer 7: the law RlpDecodes. -/
namespace Go.Proofs.Ytahekhamhdfkdaa
open Go.RowKit Go.Sort
end Go.Proofs.Ytahekhamhdfkdaa

/- Layer 7: the law RlpStrict. -/
namespace Go.Proofs.Ytahekhamhdfkdaa
open Go.RowKit Go.Sort
end Go.Proofs.Ytahekhamhdfkdaa

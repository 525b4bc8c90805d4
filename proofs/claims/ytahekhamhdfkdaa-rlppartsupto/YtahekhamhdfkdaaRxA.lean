import Derived.Test.YtahekhamhdfkdaaRjB
import Derived.Test.YtahekhamhdfkdaaRsB
import Derived.Test.YtahekhamhdfkdaaRsP
import Derived.Test.YtahekhamhdfkdaaOut
import Derived.Test.YtahekhamhdfkdaaRsG
import Derived.Test.YtahekhamhdfkdaaRjE
/- Layer 7: trees: an item in memory, its measures, its bytes. -/
namespace Go.Proofs.Ytahekhamhdfkdaa
open Go.RowKit Go.Sort

/-- A tree: is it a list; its text; its items (odd ones too). -/
inductive Tr where
  | mk (l : Bool) (X : List Int) (ts : List Tr)
namespace Tr
def l : Tr → Bool | .mk l _ _ => l
def X : Tr → List Int | .mk _ X _ => X
def ts : Tr → List Tr | .mk _ _ ts => ts
end Tr
def zT : Tr := .mk false [] []
/-- By induction: of a tree, if of all of its items. -/
theorem Tr.ind {P : Tr → Prop} (h : ∀ l X ts, (∀ t ∈ ts, P t) → P (.mk l X ts)) : ∀ t, P t :=
  Tr.rec (motive_1 := P) (motive_2 := fun ts => ∀ t ∈ ts, P t) (fun l X ts ih => h l X ts ih) (fun _ ht => by cases ht)
    (fun t ts h1 h2 u hu => by
      rcases List.mem_cons.1 hu with rfl | hu
      · exact h1
      · exact h2 u hu)
mutual
/-- An item's two slices in memory. -/
def It (W : World) : Tr → Value → Value → Prop
  | .mk _ X ts, d, q => (∃ a b o c, d = .slice a X.length c ∧ (X.length ≤ c ∧ (a = none → c = 0)) ∧ Az a b o X ∧ Bz W b o X) ∧ ∃ a b o c, q = .slice a ts.length c ∧ (ts.length ≤ c ∧ (a = none → c = 0)) ∧ (ts = [] ∨ a = some ⟨b, o, none⟩) ∧ Its W b o ts
/-- Items in a row, three cells each. -/
def Its (W : World) (b : Nat) : Nat → List Tr → Prop
  | _, [] => True
  | o, t :: ts => (∃ d q, W.rangeAt b o [.bool t.l, d, q] ∧ It W t d q) ∧ Its W b (o + 3) ts
end
theorem rangeT_keep {W W' : World} {b o : Nat} {cs : List Value} (h : W.rangeAt b o cs) (hb : Below W.heap.size W W') : W'.rangeAt b o cs := fun j v hv => by
  rw [hb.cell (World.block_lt_of_cell? W _ (h j v hv))]; exact h j v hv
theorem Its.at {W : World} {b : Nat} : ∀ {o : Nat} {ts : List Tr} (_ : Its W b o ts) (i : Nat), i < ts.length → ∃ d q, W.rangeAt b (o + i * 3) [.bool (ts.getD i zT).l, d, q] ∧ It W (ts.getD i zT) d q
  | _, [], _, i, hi => absurd hi (Nat.not_lt_zero _)
  | o, t :: ts, h, 0, _ => by
    rw [Its] at h
    obtain ⟨d, q, h1, h2⟩ := h.1
    exact ⟨d, q, by simpa using h1, h2⟩
  | o, t :: ts, h, i + 1, hi => by
    rw [Its] at h
    obtain ⟨d, q, h1, h2⟩ := Its.at h.2 i (by simpa using hi)
    refine ⟨d, q, ?_, by simpa using h2⟩
    rw [show o + (i + 1) * 3 = o + 3 + i * 3 by omega]
    simpa using h1
theorem Its.of {W : World} {b : Nat} : ∀ {o : Nat} {ts : List Tr} (_ : ∀ i, i < ts.length → ∃ d q, W.rangeAt b (o + i * 3) [.bool (ts.getD i zT).l, d, q] ∧ It W (ts.getD i zT) d q), Its W b o ts
  | _, [], _ => by rw [Its]; trivial
  | o, t :: ts, h => by
    rw [Its]
    refine ⟨?_, Its.of fun i hi => ?_⟩
    · obtain ⟨d, q, h1, h2⟩ := h 0 (by simp)
      exact ⟨d, q, by simpa using h1, by simpa using h2⟩
    · obtain ⟨d, q, h1, h2⟩ := h (i + 1) (by simpa using hi)
      refine ⟨d, q, ?_, by simpa using h2⟩
      rw [show o + 3 + i * 3 = o + (i + 1) * 3 by omega]
      simpa using h1
theorem It.keep {W W' : World} (hb : Below W.heap.size W W') : ∀ (t : Tr) {d q : Value}, It W t d q → It W' t d q :=
  Tr.ind fun l X ts ih d q h => by
    rw [It] at h ⊢
    obtain ⟨⟨a, b, o, c, h1, h2, h3, h4⟩, a', b', o', c', k1, k2, k3, k4⟩ := h
    refine ⟨⟨a, b, o, c, h1, h2, h3, h4.keep hb⟩, a', b', o', c', k1, k2, k3, Its.of fun i hi => ?_⟩
    obtain ⟨d, q, e1, e2⟩ := k4.at i hi
    refine ⟨d, q, rangeT_keep e1 hb, ih _ ?_ e2⟩
    rw [List.getD, List.getElem?_eq_getElem hi]; exact List.getElem_mem hi
/-- Is the item itself odd? -/
def odd1 (l : Bool) (X : List Int) (ts : List Tr) : Bool := if l then decide (0 < X.length) else decide (0 < ts.length)
mutual
/-- Is it or one within it odd? -/
def oddT : Tr → Bool
  | .mk l X ts => odd1 l X ts || oddS ts
def oddS : List Tr → Bool
  | [] => false
  | t :: ts => oddT t || oddS ts
end
mutual
def dpT : Tr → Nat
  | .mk l _ ts => if l then dpS ts + 1 else 0
def dpS : List Tr → Nat
  | [] => 0
  | t :: ts => max (dpT t) (dpS ts)
end
/-- The bytes of a text. -/
def encX (X : List Int) : List Int := if bareB X then X else hdR 128 X.length ++ X
mutual
/-- The bytes of an item. -/
def encT : Tr → List Int
  | .mk l X ts => if l then hdR 192 (encS ts).length ++ encS ts else encX X
def encS : List Tr → List Int
  | [] => []
  | t :: ts => encT t ++ encS ts
end
mutual
/-- How many items and bytes there are. -/
def wtT : Tr → Nat
  | .mk _ X ts => 1 + X.length + wtS ts
def wtS : List Tr → Nat
  | [] => 0
  | t :: ts => wtT t + wtS ts
end
theorem oddS_snoc : ∀ (ts : List Tr) (t : Tr), oddS (ts ++ [t]) = (oddS ts || oddT t)
  | [], t => by simp [oddS]
  | u :: ts, t => by rw [List.cons_append, oddS, oddS, oddS_snoc ts t, Bool.or_assoc]
theorem dpS_snoc : ∀ (ts : List Tr) (t : Tr), dpS (ts ++ [t]) = max (dpS ts) (dpT t)
  | [], t => by simp [dpS]
  | u :: ts, t => by rw [List.cons_append, dpS, dpS, dpS_snoc ts t]; omega
theorem encS_app : ∀ (ts us : List Tr), encS (ts ++ us) = encS ts ++ encS us
  | [], _ => by simp [encS]
  | u :: ts, us => by rw [List.cons_append, encS, encS, encS_app ts us, List.append_assoc]
theorem wtS_app : ∀ (ts us : List Tr), wtS (ts ++ us) = wtS ts + wtS us
  | [], _ => by simp [wtS]
  | u :: ts, us => by rw [List.cons_append, wtS, wtS, wtS_app ts us]; omega
theorem take_snoc {ts : List Tr} {i : Nat} (h : i < ts.length) : ts.take (i + 1) = ts.take i ++ [ts.getD i zT] := by
  rw [List.take_add_one, List.getD, List.getElem?_eq_getElem h]; rfl
theorem getT_mem {ts : List Tr} {i : Nat} (h : i < ts.length) : ts.getD i zT ∈ ts := by
  rw [List.getD, List.getElem?_eq_getElem h]; exact List.getElem_mem h
theorem wt_item {ts : List Tr} {i : Nat} (h : i < ts.length) : wtS (ts.take i) + wtT (ts.getD i zT) ≤ wtS ts := by
  have e : ts.take (i + 1) ++ ts.drop (i + 1) = ts := List.take_append_drop _ _
  have := wtS_app (ts.take (i + 1)) (ts.drop (i + 1))
  rw [e, take_snoc h, wtS_app, wtS, wtS] at this
  omega
theorem encX_len (X : List Int) : (encX X).length ≤ 4 + X.length := by
  unfold encX
  split
  · omega
  · have := hdR_len 128 X.length
    rw [List.length_append]; omega
mutual
theorem encT_len : ∀ t : Tr, (encT t).length ≤ 4 * wtT t
  | .mk l X ts => by
    rw [encT, wtT]
    have h := encS_len ts
    have k := encX_len X
    split
    · have := hdR_len 192 (encS ts).length
      rw [List.length_append]; omega
    · omega
theorem encS_len : ∀ ts : List Tr, (encS ts).length ≤ 4 * wtS ts
  | [] => by rw [encS, wtS]; exact Nat.le_refl _
  | t :: ts => by
    rw [encS, wtS, List.length_append]
    have := encT_len t
    have := encS_len ts
    omega
end
mutual
theorem dpT_le : ∀ t : Tr, dpT t ≤ wtT t
  | .mk l X ts => by
    rw [dpT, wtT]
    have h := dpS_le ts
    split <;> omega
theorem dpS_le : ∀ ts : List Tr, dpS ts ≤ wtS ts
  | [] => by rw [dpS, wtS]; exact Nat.le_refl _
  | t :: ts => by
    rw [dpS, wtS]
    have := dpT_le t
    have := dpS_le ts
    omega
end
end Go.Proofs.Ytahekhamhdfkdaa

/- Layer 7: the document's head: the short ones. -/
namespace Go.Proofs.Ytahekhamhdfkdaa
open Go.RowKit Go.Sort
end Go.Proofs.Ytahekhamhdfkdaa

/- Layer 7: the document's head: the long ones. -/
namespace Go.Proofs.Ytahekhamhdfkdaa
open Go.RowKit Go.Sort
/-- A number's cells in a block. -/
def NmR (W : World) (b : Nat) (n : Int) : Prop := W.cell? ⟨b, 0, none⟩ = some (.int .u64 (l0 n)) ∧ W.cell? ⟨b, 1, none⟩ = some (.int .u64 (l1 n)) ∧ W.cell? ⟨b, 2, none⟩ = some (.int .u64 (l2 n)) ∧ W.cell? ⟨b, 3, none⟩ = some (.int .u64 (l3 n))
theorem NmR.other {W : World} {b b' i : Nat} {n : Int} (x : NmR W b n) (ne : b' ≠ b) (v : Value) : NmR (W.setCell ⟨b', i, none⟩ v) b n := by
  have hg := heap_setCell_other W ⟨b', i, none⟩ b v (fun e => ne e.symm)
  exact ⟨by rw [← x.1]; simp only [World.cell?, hg], by rw [← x.2.1]; simp only [World.cell?, hg], by rw [← x.2.2.1]; simp only [World.cell?, hg], by rw [← x.2.2.2]; simp only [World.cell?, hg]⟩
theorem NmR.keep {W w1 : World} {b : Nat} {n : Int} (h : NmR W b n) (hb : Below W.heap.size W w1) : NmR w1 b n := ⟨keepC hb h.1, keepC hb h.2.1, keepC hb h.2.2.1, keepC hb h.2.2.2⟩
end Go.Proofs.Ytahekhamhdfkdaa

/- Layer 7: the document's head of any bytes. -/
namespace Go.Proofs.Ytahekhamhdfkdaa
open Go.RowKit Go.Sort
end Go.Proofs.Ytahekhamhdfkdaa

/- Layer 7: the document's head, of a room within the bytes: the short ones. -/
namespace Go.Proofs.Ytahekhamhdfkdaa
open Go.RowKit Go.Sort
end Go.Proofs.Ytahekhamhdfkdaa

/- Layer 7: the document's bytes and Split. -/
namespace Go.Proofs.Ytahekhamhdfkdaa
open Go.RowKit Go.Sort
theorem own_nil0 (B : Nat) (w : World) : OwnB B w (.slice none 0 0) [] := ⟨rfl, .inl ⟨rfl, rfl⟩⟩
set_option maxHeartbeats 4000000 in
theorem r7bytes_any {X : List Int} {a : Option Addr} {g p c n : Nat} (hn : n = X.length) (hl : X.length < 140737488355000) (ha : Az a g p X) (hnc : a = none → c = 0) (w : World) (hz : Bz w g p X) :
    Calls Try.prog 42 #[.slice a n c] w fun e w' => ∃ v, e = .returned v ∧ OwnB w.heap.size w' v X ∧ Below w.heap.size w w' := by
  have HQ : Hid (n = X.length ∧ X.length < 140737488355000 ∧ Az a g p X ∧ (a = none → c = 0) ∧ Bz w g p X) := ⟨hn, hl, ha, hnc, hz⟩
  clear hn hl ha hnc hz
  go_enter Try.func42, Try.ntmps42
  go_wp2_with ((at_builtin; refine wpList_append_rd rfl _ _ rfl rfl rfl HQ.out.1 (own_nil0 w.heap.size w) HQ.out.2.2.1 HQ.out.2.2.2.1 HQ.out.2.2.2.2 (by have := HQ.out.2.1; simp; omega) (Nat.le_refl _) ?_); intro v3 w3 o3 g3)
  go_ret
  exact ⟨_, rfl, by simpa using o3, (Below.refl _ _).grown g3 (Nat.le_refl _) (fun k hk => by cases hk)⟩
end Go.Proofs.Ytahekhamhdfkdaa

/- Layer 7: the long ones. -/
namespace Go.Proofs.Ytahekhamhdfkdaa
open Go.RowKit Go.Sort
end Go.Proofs.Ytahekhamhdfkdaa

/- Layer 7: the head of any room. -/
namespace Go.Proofs.Ytahekhamhdfkdaa
open Go.RowKit Go.Sort
end Go.Proofs.Ytahekhamhdfkdaa

/- Layer 7: the document's Parts. -/
namespace Go.Proofs.Ytahekhamhdfkdaa
open Go.RowKit Go.Sort
end Go.Proofs.Ytahekhamhdfkdaa

/- Layer 7: the law RlpSplits. -/
namespace Go.Proofs.Ytahekhamhdfkdaa
open Go.RowKit Go.Sort
/-- What Parts answers of any bytes. -/
def ptP (A : List Int) : Int × List (List Int) := if 16777216 < A.length then (2, []) else partsP A
theorem parts_all {A : List Int} {a : Option Addr} {b o c : Nat} (hA : Byts A) (hc : A.length ≤ c) (ha : Az a b o A) (w : World) (h : Bz w b o A) :
    Calls Try.prog 22 #[.slice a A.length c] w fun e w' => ∃ v VS, e = .returned (.tuple #[v, .int .i64 (ptP A).1]) ∧ TxE w.heap.size w' v (ptP A).2 VS ∧ Below w.heap.size w w' := by
  by_cases k : 16777216 < A.length
  · have e : ptP A = (2, []) := by unfold ptP; rw [if_pos k]
    rw [e]
    exact (parts_long k w).mono fun e w' x => ⟨_, [], x.1, TxE.nil _ _, x.2⟩
  · have e : ptP A = partsP A := by unfold ptP; rw [if_neg k]
    rw [e]
    exact parts_any hA (by omega) hc ha w h
theorem OwnB.tz {B : Nat} {W : World} {v : Value} {X : List Int} (h : OwnB B W v X) : Tz W v X := by
  obtain ⟨a, g, c, e, q1, q2, q3, q4, q5, q6⟩ := h.lies
  exact ⟨a, g, 0, c, e, q1, q2, q6, q3⟩
theorem TxE.pz {B : Nat} {W : World} {pv : Value} {XS : List (List Int)} {VS : List Value} (h : TxE B W pv XS VS) : ∃ (a : Option Addr) (b c : Nat) (V : Nat → Value), pv = .slice a XS.length c ∧ AzP a b 0 XS ∧ Pz W b 0 XS V := by
  obtain ⟨hl, ho, he⟩ := h
  have ho' := ho
  rcases ho.2 with ⟨rfl, h0⟩ | ⟨g, cap, cur, rfl, _, _, hle, _⟩
  · have e : XS = [] := List.length_eq_zero_iff.1 h0
    subst e
    exact ⟨none, 0, 0, fun _ => Value.bool false, rfl, .inl rfl, fun i hi => absurd hi (Nat.not_lt_zero _)⟩
  · refine ⟨some ⟨g, 0, none⟩, g, cap, fun j => VS.getD j (Value.bool false), rfl, .inr rfl, fun i hi => ?_⟩
    obtain ⟨u, h1, h2, _⟩ := he i hi
    have e : VS.getD i (Value.bool false) = u := by rw [List.getD, h1]; rfl
    have c := ho'.cells (g := g) rfl i u h1
    rw [Addr.add_mid] at c
    refine ⟨?_, ?_⟩
    · show _ = some (VS.getD i (Value.bool false))
      rw [e]; exact c
    · show Tz W (VS.getD i (Value.bool false)) _
      rw [e]; exact h2.tz
theorem same_own {B B' : Nat} {W : World} {v v' : Value} {X : List Int} (hl : X.length < 281474976710656) (h : OwnB B W v X) (h' : OwnB B' W v' X) :
    Calls Try.prog 14 #[v, v'] W fun e w' => e = .returned (.bool true) ∧ Below W.heap.size W w' := by
  obtain ⟨a1, g1, p1, c1, rfl, _, z1, _, y1⟩ := h.tz
  obtain ⟨a2, g2, p2, c2, rfl, _, z2, _, y2⟩ := h'.tz
  have k := same7_any (c := c1) (c' := c2) hl z1 z2 W y1 y2
  rw [decide_eq_true rfl] at k
  exact k
end Go.Proofs.Ytahekhamhdfkdaa

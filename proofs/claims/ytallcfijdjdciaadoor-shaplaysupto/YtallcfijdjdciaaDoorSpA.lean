import Derived.Test.YtallcfijdjdciaaDoorSSums
import Derived.Test.YtallcfijdjdciaaDoorSRDig
import Derived.Test.YtallcfijdjdciaaDoorSRJoin
import Derived.Test.YtallcfijdjdciaaDoorSRLent
import Derived.Test.YtallcfijdjdciaaDoorSNil
/- Layer 3: hashers, further: Reset, Copy; the document's. -/
namespace Go.Proofs.YtallcfijdjdciaaDoor
open Go.RowKit Go.Sort
/-- What is kept but for the blocks of S. -/
structure Chg (S : Nat → Prop) (w w' : World) : Prop where
  os : w'.os = w.os
  tape : w'.tape = w.tape
  output : w'.output = w.output
  size : w.heap.size ≤ w'.heap.size
  block : ∀ k, k < w.heap.size → ¬ S k → w'.heap[k]? = w.heap[k]?
theorem Chg.refl (S : Nat → Prop) (w : World) : Chg S w w := ⟨rfl, rfl, rfl, Nat.le_refl _, fun _ _ _ => rfl⟩
theorem Chg.trans {S T : Nat → Prop} {w w1 w2 : World} (h : Chg S w w1) (k : Chg T w1 w2) (hT : ∀ j, T j → S j ∨ w.heap.size ≤ j) : Chg S w w2 :=
  ⟨k.os.trans h.os, k.tape.trans h.tape, k.output.trans h.output, Nat.le_trans h.size k.size, fun j hj hn => (k.block j (Nat.lt_of_lt_of_le hj h.size) (fun t => by
    rcases hT j t with s | s
    · exact hn s
    · omega)).trans (h.block j hj hn)⟩
theorem Chg.of_below {S : Nat → Prop} {w w' : World} (h : Below w.heap.size w w') : Chg S w w' := ⟨h.os, h.tape, h.output, h.size, fun k hk _ => h.block k hk⟩
theorem Chg.of_off {b : Nat} {w w' : World} (h : Off b w w') : Chg (fun k => k = b) w w' := ⟨h.os, h.tape, h.output, h.size, fun k hk hn => h.block k hk hn⟩
theorem Chg.mono {S T : Nat → Prop} {w w' : World} (h : Chg S w w') (hS : ∀ k, S k → T k) : Chg T w w' := ⟨h.os, h.tape, h.output, h.size, fun k hk hn => h.block k hk (fun s => hn (hS k s))⟩
theorem Chg.below {S : Nat → Prop} {B : Nat} {w w' : World} (h : Chg S w w') (hB : B ≤ w.heap.size) (hS : ∀ k, S k → B ≤ k) : Below B w w' := ⟨h.os, h.tape, h.output, h.size, fun k hk => h.block k (by omega) (fun s => by have := hS k s; omega)⟩
theorem Chg.cell {S : Nat → Prop} {w w' : World} (h : Chg S w w') {b j : Nat} {v : Value} (hv : w.cell? ⟨b, j, none⟩ = some v) (n : ¬ S b) : w'.cell? ⟨b, j, none⟩ = some v := by
  rw [World.cell?_of_block (w := w) (a := ⟨b, j, none⟩) (h.block b (World.block_lt_of_cell? _ _ hv) n)]; exact hv
theorem frozen_same {W W' : World} {b j : Nat} (e : W'.heap[b]? = W.heap[b]?) (h : W.frozen? ⟨b, j, none⟩ = false) : W'.frozen? ⟨b, j, none⟩ = false := by
  rw [World.frozen?_of_block (w := W) (a := ⟨b, j, none⟩) e]; exact h
theorem own_arg {B : Nat} {W : World} {v : Value} {X : List (BitVec 8)} (h : Own B W v X) : ∃ a g c, v = .slice a X.length c ∧ X.length ≤ c ∧ At a g 0 X ∧ Byo W g 0 X := by
  rcases h.2 with ⟨e, hx⟩ | ⟨g, cap, cur, e, _, _, hle, _⟩
  · have hx' : X = [] := List.length_eq_zero_iff.1 hx
    subst hx'
    exact ⟨none, 0, 0, e, Nat.le_refl _, .inl rfl, fun i hi => absurd hi (by simp)⟩
  · refine ⟨some ⟨g, 0, none⟩, g, cap, e, hle, .inr rfl, fun i hi => ?_⟩
    subst e
    rw [Nat.zero_add, World.ownsRow.cellAt h i (by omega)]
    unfold byts
    rw [List.getElem?_map, List.getElem?_eq_getElem hi, List.getD, List.getElem?_eq_getElem hi]
    rfl
theorem Own.base {B B' : Nat} {W : World} {v : Value} {X : List (BitVec 8)} (h : Own B W v X) (hB : B' ≤ B) : Own B' W v X := by
  refine ⟨h.1, ?_⟩
  rcases h.2 with h | ⟨g, cap, cur, rfl, hb, r⟩
  · exact .inl h
  · exact .inr ⟨g, cap, cur, rfl, by omega, r⟩
theorem setCell_other {W : World} {b i k : Nat} {v : Value} (ne : k ≠ b) (lt : k < W.heap.size) : (W.setCell ⟨b, i, none⟩ v).heap[k]? = W.heap[k]? := ((Off.refl b W).setCell v).block k lt ne
theorem Hs.same {W W' : World} {b : Nat} {S : List (BitVec 32)} {K : List (BitVec 8)} {T : Nat} (h : Hs W b S K T) (e : W'.heap[b]? = W.heap[b]?) : Hs W' b S K T :=
  Hs.of_range h.sl h.kl (fun j v hv => by rw [World.cell?_of_block (w := W) (a := ⟨b, 0 + j, none⟩) e]; exact h.range j v hv) (fun j hj => frozen_same e (h.ls j hj))
theorem rng_newK {W : World} {M : List Value} {t : TypeId} : (W.alloc (.cells M.toArray t)).rangeAt W.heap.size 0 M := fun j v hv => by
  rw [World.cell?_alloc_mark, Nat.zero_add]; simpa using hv
theorem there_newK {W : World} {cs : Array Value} {t : TypeId} {n : Nat} (hn : n = cs.size) : (W.alloc (.cells cs t)).there W.heap.size 0 n := by
  intro j hj
  rw [Nat.zero_add, World.cell?_alloc_mark]
  refine ⟨by simp; omega, ?_⟩
  simp
theorem Off.cells0 {b : Nat} {w : World} (cs : List Value) : Off b w (w.setCells b 0 cs) := (Off.refl b w).setCells cs
theorem wpList_put_newK {ops : Array Oper} {rest : List Oper} {op : Oper} {a : Act} {w : World} {Q : Exit → Act → World → Prop} {M : Array Value} {t : TypeId} (hgd : op.guard = none) (ty : TypeId) (x y : Operand) (ho : op.op = .store ty x y) (N : List Value)
    (hx : a.eval x = .pointer (some ⟨w.heap.size, 0, none⟩)) (hy : a.eval y = .agg N.toArray) (hM : M.size = N.length) (hi : (Tryd.prog.info? ty).map (·.size) = some N.length) (h1 : N.toArray.all (·.oneCell') = true)
    (h : ∀ W', Below w.heap.size w W' → W'.rangeAt w.heap.size 0 N → Loose W' w.heap.size N.length → w.heap.size < W'.heap.size → wpList Tryd.prog ops Q rest (a.put op.dst undef) W') : wpList Tryd.prog ops Q (op :: rest) a (w.alloc (.cells M t)) := by
  have tr : (w.alloc (.cells M t)).there w.heap.size 0 N.length := there_newK hM.symm
  refine wpList_store_mid hgd ty x y ho w.heap.size 0 N.toArray hx hy (by simpa using tr) (by simpa using hi) h1 ?_
  have B0 : Below w.heap.size w (w.alloc (.cells M t)) := (Below.refl w.heap.size w).alloc (Nat.le_refl _) (.cells M t)
  have O : Off w.heap.size (w.alloc (.cells M t)) ((w.alloc (.cells M t)).setCells w.heap.size 0 N) := Off.cells0 _
  have B1 := O.below (B := w.heap.size) (by simp) (Nat.le_refl _)
  refine h _ (B0.trans B1) (World.rangeAt_setCells_same _ _ _ _ tr) ((Loose.new _ _ _ rfl).setCells _ _ _) ?_
  exact Nat.lt_of_lt_of_le (by simp) B1.size
theorem size_hs : (Tryd.prog.info? 29).map (·.size) = some 73 := by kernel_rfl
/-- A new hasher's cells. -/
noncomputable def hz : List Value := hcells (List.replicate 8 0) (List.replicate 64 0) 0
theorem hz_len : hz.length = 73 := hcells_len 0 (by simp) (by simp)
theorem hz_zero (w : World) : (zeroValue 29).run Tryd.prog w = .ok (.agg hz.toArray) w := by
  rw [zeroHs w, hz, zcells]
theorem Tx.of {W : World} {b : Nat} (h : W.rangeAt b 0 hz) (f : Loose W b 73) : Tx W b [] := Hs.of_range (by decide) (by decide) h f
theorem Tx.same {W W' : World} {b : Nat} {X : List (BitVec 8)} (h : Tx W b X) (e : W'.heap[b]? = W.heap[b]?) : Tx W' b X := Hs.same h e
theorem Hs.there73 {W : World} {b : Nat} {S : List (BitVec 32)} {K : List (BitVec 8)} {T : Nat} (h : Hs W b S K T) : W.there b 0 73 := fun j hj => by
  have lt : j < (hcells S K T).length := by rw [hcells_len T h.sl h.kl]; exact hj
  refine ⟨by rw [h.range j _ (List.getElem?_eq_getElem lt)]; rfl, ?_⟩
  rw [Nat.zero_add]; exact h.ls j hj
set_option maxRecDepth 100000 in
set_option maxHeartbeats 4000000 in
theorem hreset_any {b : Nat} {X : List (BitVec 8)} (w : World) (hS : Tx w b X) :
    Calls Tryd.prog 19 #[.pointer (some ⟨b, 0, none⟩)] w fun e w' => e = .returned (.tuple #[]) ∧ Tx w' b [] ∧ Off b w w' := by
  have tr := Hs.there73 hS
  have LZ := hz_len
  have zh := hz_zero
  have on := one_hcells (List.replicate 8 0) (List.replicate 64 0) 0
  have HW : Hid (Tx (w.setCells b 0 hz) b [] ∧ Off b w (w.setCells b 0 hz)) := ⟨Tx.of (World.rangeAt_setCells_same _ _ _ _ (by rw [LZ]; exact tr)) (Loose.setCells hS.ls _ _ _), Off.cells0 _⟩
  change hz.toArray.all (·.oneCell') = true at on
  generalize hz = M at *
  have tr' : w.there b 0 M.toArray.size := by rw [List.size_toArray, LZ]; exact tr
  have iz : (Tryd.prog.info? 29).map (·.size) = some M.toArray.size := by rw [List.size_toArray, LZ]; exact size_hs
  clear tr hS LZ
  go_enter Tryd.func19, Tryd.ntmps19
  go_wp2_with (refine wpList_store_mid rfl 29 _ _ rfl b 0 M.toArray rfl rfl tr' iz on ?_)
  simp [bodyPost, results, Tryd.results19, go_sem]
  exact HW.out
set_option maxRecDepth 100000 in
set_option maxHeartbeats 4000000 in
theorem hcopy_any {b : Nat} {X : List (BitVec 8)} (w : World) (hS : Tx w b X) :
    Calls Tryd.prog 7 #[.pointer (some ⟨b, 0, none⟩)] w fun e w' => e = .returned (.pointer (some ⟨w.heap.size, 0, none⟩)) ∧ Tx w' w.heap.size X ∧ Below w.heap.size w w' := by
  have HL : Hid ((stX X).length = 8 ∧ (bkX X).length = 64) := ⟨hS.sl, hS.kl⟩
  have LZ := hcells_len X.length hS.sl hS.kl
  have rg := Hs.range hS
  have on := one_hcells (stX X) (bkX X) X.length
  have zh := hz_zero
  have lz := hz_len
  obtain ⟨M, eM⟩ : ∃ M, Hid (M = hcells (stX X) (bkX X) X.length) := ⟨_, rfl⟩
  rw [← eM.out] at LZ rg on
  have iz : (Tryd.prog.info? 29).map (·.size) = some M.length := by rw [LZ]; exact size_hs
  have zs : hz.toArray.size = M.length := by rw [List.size_toArray, lz, LZ]
  have LM : Hid (M.length = 73) := LZ
  generalize hz = N at *
  clear hS LZ lz
  go_enter Tryd.func7, Tryd.ntmps7
  go_wp2_with first | (refine wpList_load_mid rfl 29 _ rfl b 0 rfl M _ rg Tryd.underlying29 rfl iz ?_) | (refine wpList_put_newK rfl 29 _ _ rfl M rfl rfl zs iz on ?_; intro w3 hb3 RX LX lt3; simp only [Act.put])
  simp [bodyPost, results, Tryd.results7, go_sem]
  refine ⟨Hs.of_range HL.out.1 HL.out.2 (by rw [← eM.out]; exact RX) (by rw [LM.out] at LX; exact LX), hb3⟩
/-- The document's hasher in a block: the list of all its bytes. -/
structure Dh (W : World) (B bd : Nat) (v : Value) (X : List (BitVec 8)) : Prop where
  all : W.cell? ⟨bd, 0, none⟩ = some v
  f0 : W.frozen? ⟨bd, 0, none⟩ = false
  own : Own B W v X
  ne : v.ownBlock ≠ some bd
theorem Dh.lt {W : World} {B bd : Nat} {v : Value} {X : List (BitVec 8)} (h : Dh W B bd v X) : bd < W.heap.size := World.block_lt_of_cell? W ⟨bd, 0, none⟩ h.all
theorem Dh.same {W W' : World} {B bd : Nat} {v : Value} {X : List (BitVec 8)} (h : Dh W B bd v X) (e : W'.heap[bd]? = W.heap[bd]?) (hs : ∀ j, v.ownBlock = some j → W'.heap[j]? = W.heap[j]?) : Dh W' B bd v X where
  all := by rw [World.cell?_of_block (w := W) (a := ⟨bd, 0, none⟩) e]; exact h.all
  f0 := frozen_same e h.f0
  own := own_same h.own hs
  ne := h.ne
theorem Dh.new {W : World} {B : Nat} {v : Value} {X : List (BitVec 8)} (t : TypeId) (h : Own B W v X) : Dh (W.alloc (.cells #[v] t)) B W.heap.size v X where
  all := by rw [World.cell?_alloc_mark]; rfl
  f0 := by simp
  own := own_same h (fun j hj => by have := (World.ownsRow.lt h j hj).2; exact heap_alloc_old W _ this)
  ne := fun e => by have := (World.ownsRow.lt h _ e).2; omega
theorem Dh.base {W : World} {B B' bd : Nat} {v : Value} {X : List (BitVec 8)} (h : Dh W B bd v X) (hB : B' ≤ B) : Dh W B' bd v X := ⟨h.all, h.f0, h.own.base hB, h.ne⟩
theorem one_partH {W : World} {p : Part} (t : TypeId) (h : p.ok W) : Prts (W.alloc (.cells #[p.val] t)) W.heap.size 0 [p] := fun i hi => by
  have : i = 0 := by simpa using hi
  subst this
  have hb : Below W.heap.size W (W.alloc (.cells #[p.val] t)) := (Below.refl _ _).alloc (Nat.le_refl _) _
  exact ⟨by rw [World.cell?_alloc_mark]; rfl, h.1, h.2.1, h.2.2.keep hb⟩
theorem two_partsH {W : World} {p q : Part} (t : TypeId) (h : p.ok W) (k : q.ok W) : Prts (W.alloc (.cells #[p.val, q.val] t)) W.heap.size 0 [p, q] := fun i hi => by
  have hb : Below W.heap.size W (W.alloc (.cells #[p.val, q.val] t)) := (Below.refl _ _).alloc (Nat.le_refl _) _
  have : i = 0 ∨ i = 1 := by have : i < 2 := by simpa using hi
                             omega
  rcases this with rfl | rfl
  · exact ⟨by rw [World.cell?_alloc_mark]; rfl, h.1, h.2.1, h.2.2.keep hb⟩
  · exact ⟨by rw [World.cell?_alloc_mark]; rfl, k.1, k.2.1, k.2.2.keep hb⟩
end Go.Proofs.YtallcfijdjdciaaDoor

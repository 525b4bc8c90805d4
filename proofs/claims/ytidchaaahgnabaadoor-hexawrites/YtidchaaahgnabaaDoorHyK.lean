import Derived.Test.YtidchaaahgnabaaDoorHyH
import Derived.Test.YtidchaaahgnabaaDoorHxQc
import Derived.Laws.CopyOwn
/- Layer 8: backward, a copy over a lent list; the document's Data, Uint, HashText. -/
namespace Go.Proofs.YtidchaaahgnabaaDoor
open Go.RowKit Go.Sort
theorem rev_snocI {X : List Int} {i : Nat} (h : i < X.length) : X.reverse.take (i + 1) = X.reverse.take i ++ [X.getD (X.length - 1 - i) 0] := by
  rw [take_snocI (by simpa using h)]
  congr 2
  rw [List.getD, List.getElem?_reverse h]
  rfl

set_option maxHeartbeats 4000000 in
theorem hbackward_any {a : Option Addr} {bd od cd : Nat} {X : List Int} (hl : X.length < 140737488355000) (ha : Az a bd od X) (w : World) (hX : Bz w bd od X) :
    Calls Tryd.prog 16 #[.slice a X.length cd] w fun e w' => ∃ v, e = .returned v ∧ OwnB w.heap.size w' v X.reverse ∧ Below w.heap.size w w' := by
  have hl' : (X.length : Int) < 140737488355000 := by omega
  obtain ⟨i0, hi, hz0, hz1, hz2⟩ := info_partsH info_byteH
  have HA : Hid (Az a bd od X ∧ Bz w bd od X ∧ X.length < 140737488355000) := ⟨ha, hX, hl⟩
  clear ha hX hl
  go_enter Tryd.func16, Tryd.ntmps16
  go_wp2_with fail
  go_loopg [3, 4] X.length (fun k lv iv wr => ∃ i : Nat, k = X.length - i ∧ i ≤ X.length ∧ iv = .int .i64 ((X.length : Int) - 1 - i) ∧ OwnB w.heap.size wr lv (X.reverse.take i) ∧ Below w.heap.size w wr)
  case atStart => exact ⟨0, rfl, Nat.zero_le _, by simp, OwnB.nil _ _, Below.refl _ _⟩
  case round =>
    obtain ⟨i, hk, hi9, rfl, hown, B⟩ := hrel
    have HK : Hid (gk = X.length - i) := hk
    have HF : Hid (OwnB w.heap.size wr u3 (X.reverse.take i) ∧ Below w.heap.size w wr) := ⟨hown, B⟩
    clear hk hown B
    by_cases h8 : i = X.length
    · subst h8
      rw [show (X.length : Int) - 1 - (X.length : Int) = -1 by omega]
      have HR : Hid (X.reverse.take X.length = X.reverse) := List.take_of_length_le (by simp)
      go_wp2
      go_ret
      exact ⟨_, rfl, by rw [← HR.out]; exact HF.out.1, HF.out.2⟩
    · have hlt : i < X.length := by omega
      have ea : a = some ⟨bd, od, none⟩ := by
        rcases HA.out.1 with h | h
        · rw [h] at hlt; simp at hlt
        · exact h
      subst ea
      obtain ⟨j, ej⟩ : ∃ j : Nat, j = X.length - 1 - i := ⟨_, rfl⟩
      have ej' : (X.length : Int) - 1 - (i : Int) = (j : Int) := by omega
      have j1 : j < X.length := by omega
      have gx : wr.cell? ⟨bd, od + j, none⟩ = some (.int .u8 (X.getD j 0)) := by
        have h := HA.out.2.1 j (by omega)
        rw [HF.out.2.cell (p := ⟨bd, od + j, none⟩) (World.block_lt_of_cell? w _ h)]; exact h
      have NX : Hid (X.reverse.take (i + 1) = X.reverse.take i ++ [X.getD j 0]) := by rw [ej]; exact rev_snocI hlt
      have LR : Hid ((X.reverse.take i).length = i ∧ i < 140737488355000) := ⟨by rw [List.length_take, List.length_reverse]; omega, by have := HA.out; omega⟩
      generalize X.getD j 0 = x at *
      rw [ej']
      have EJ : Hid ((X.length : Int) - 1 - (i : Int) = (j : Int)) := ej'
      clear ej' ej
      go_wp2_with ((at_builtin; go_loud (refine wpList_append_own_at _ rfl _ _ 30 rfl w.heap.size 5 i0 (.int .u8 0) 1 1 Tryd.underlying30 hi hz0 hz1 hz2 rfl (by decide) u3 _ _ rfl (HF.out.1.row.alloc _) ⟨wr.heap.size, 0, none⟩ 1 1 [.int .u8 x] rfl rfl (cell_oneH _ _ _) (fun u hu => by simp at hu; subst hu; rfl) (by unfold maxLen; have := LR.out; omega) (by have := LR.out; omega) (by have := HF.out.2.size; simp; omega) ?_); intro v' w3 hown' hgrow3 hnil3 hblk))
      have HO : Hid (OwnB w.heap.size w3 v' (X.reverse.take (i + 1)) ∧ Below w.heap.size w w3) := by
        refine ⟨?_, ?_⟩
        · rw [NX.out, OwnB, List.length_append, List.map_append]
          exact hown'
        · exact (HF.out.2.alloc HF.out.2.size _).grown hgrow3 (by have := HF.out.2.size; simp; omega) (fun k hk => (HF.out.1.row.lt k hk).1)
      clear hown' hgrow3 hnil3 hblk
      go_roundg (X.length - (i + 1))
      case measure => have := HK.out; omega
      case rel =>
        have h : (j : Int) - 1 = (X.length : Int) - 1 - ((i + 1 : Nat) : Int) := by have := EJ.out; omega
        exact ⟨i + 1, rfl, by omega, by rw [h], HO.out⟩

set_option maxRecDepth 100000 in
theorem wpList_copy_over {w : World} {ops : Array Oper} {rest : List Oper} {o : Oper} {a : Act} {Q : Exit → Act → World → Prop} (hgd : o.guard = none) (d s : Operand)
    (ho : o.op = .call { callee := .builtin .copy, args := #[d, s], argTypes := #[30, 30] })
    {g n m dCap sCap bs os : Nat} {sp : Option Addr} {X Z T : List Int} (hd : a.eval d = .slice (some ⟨g, 0, none⟩) n dCap) (hs : a.eval s = .slice sp m sCap) (hn : n = X.length) (hm : m = Z.length) (hl : Z.length = X.length) (hr : Rw8 w g (X ++ T)) (hat : Az sp bs os Z) (hby : Bz w bs os Z)
    (h : ∀ w', Rw8 w' g (Z ++ T) → w.grownBy w' (some g) → wpList Tryd.prog ops Q rest (a.put o.dst (goInt Z.length)) w') : wpList Tryd.prog ops Q (o :: rest) a w := by
  subst hn hm
  have hu := Tryd.underlying30
  have hsz : (Tryd.prog.info? 5).map (·.size) = some 1 := by kernel_rfl
  by_cases h0 : Z = []
  · subst h0
    have hx : X = [] := List.length_eq_zero_iff.1 (by simpa using hl.symm)
    subst hx
    exact wpList_copy_nothing hgd d s _ _ ho _ hu hsz _ _ _ _ _ _ hd hs rfl (h w hr (World.grownBy.refl _ _))
  · rcases hat with h1 | h1
    · exact absurd h1 h0
    · subst h1
      have e : (((X ++ T).map (Value.int .u8)).toArray.toList.take 0 ++ (Z.map (Value.int .u8) ++ ((X ++ T).map (Value.int .u8)).toArray.toList.drop (0 + (Z.map (Value.int .u8)).length))) = (Z ++ T).map (Value.int .u8) := by
        rw [List.take_zero, List.nil_append, List.length_map, Nat.zero_add, hl, List.map_append, List.map_append]
        congr 1
        show List.drop X.length _ = _
        have e3 : (X.map (Value.int .u8)).length = X.length := List.length_map _
        rw [← e3, List.drop_left]
      have e2 : (Z.map (Value.int .u8)).length = Z.length := List.length_map _
      refine wpList_copy_own hgd d s _ _ ho _ hu hsz g 0 X.length dCap ⟨bs, os, none⟩ Z.length sCap hd hs _ _ hr (Z.map (Value.int .u8)) (by rw [e2, hl]; exact (Nat.min_self _).symm) (fun j v hv => ?_) (by simp; omega) (fun v hv => by obtain ⟨x, _, rfl⟩ := List.mem_map.1 hv; rfl) ?_
      · rw [List.getElem?_map] at hv
        obtain ⟨x, hx, rfl⟩ := Option.map_eq_some_iff.1 hv
        have hj : j < Z.length := (List.getElem?_eq_some_iff.1 hx).1
        rw [Addr.add_mid, hby j hj]
        simp [List.getD, hx]
      · rw [e, e2]
        exact h _ (setRow_heap w g _ _ _ _ hr) ⟨rfl, rfl, rfl, by simp [World.setRow], fun k _ hk => setRow_other w g k _ (fun e => hk (by rw [e]))⟩
set_option maxRecDepth 100000 in
theorem rsmall_nil {a : Option Addr} {c : Nat} (w : World) :
    Calls Tryd.prog 38 #[.slice a 0 c] w fun e w' => e = .returned (.string ⟨#[]⟩) ∧ Below w.heap.size w w' := by
  have cv : ∀ W, (convert 30 9 (.slice none 0 0)).run Tryd.prog W = .ok (.string ⟨#[]⟩) W := fun W => by kernel_rfl
  go_enter Tryd.func38, Tryd.ntmps38
  go_wp2_with fail
  go_loopg [3, 4] 0 (fun k lv iv wr => k = 0 ∧ iv = .int .i64 0 ∧ lv = .slice none 0 0 ∧ wr = w)
  case atStart => exact ⟨rfl, rfl, rfl, rfl⟩
  case round =>
    obtain ⟨rfl, rfl, rfl, rfl⟩ := hrel
    go_wp2
    simp [bodyPost, results, Tryd.results38, go_sem]
    exact Below.refl _ _
theorem rsmall_all {a : Option Addr} {g o c : Nat} {X : List Int} (hn : X.length < 268435456) (hb : ∀ i, 0 ≤ X.getD i 0 ∧ X.getD i 0 < 256) (ha : Az a g o X) (w : World) (hc : Bz w g o X) :
    Calls Tryd.prog 38 #[.slice a X.length c] w fun e w' => e = .returned (.string ⟨(hexB X).toArray⟩) ∧ Below w.heap.size w w' := by
  by_cases h0 : X = []
  · subst h0; exact rsmall_nil w
  · obtain rfl := ha.resolve_left h0
    exact rsmall_any rfl (List.length_pos_iff.2 h0) hn hb w hc
theorem front_cat (T : List UInt8) : (⟨#[48, 120]⟩ : ByteArray) ++ ⟨T.toArray⟩ = ⟨([48, 120] ++ T).toArray⟩ := by
  apply ByteArray.ext
  rw [ByteArray.data_append]
  simp
set_option maxRecDepth 100000 in
theorem rdata_any {a : Option Addr} {g o c : Nat} {X : List Int} (hn : X.length ≤ 16777216) (hb : ∀ i, 0 ≤ X.getD i 0 ∧ X.getD i 0 < 256) (ha : Az a g o X) (w : World) (hc : Bz w g o X) :
    Calls Tryd.prog 14 #[.slice a X.length c] w fun e w' => e = .returned (.tuple #[.string ⟨([48, 120] ++ hexB X).toArray⟩, .int .i64 0]) ∧ Below w.heap.size w w' := by
  have hs := rsmall_all (c := c) (by omega) hb ha w hc
  have q1 : ¬ (16777216 : Int) < (X.length : Int) := by omega
  have lT : (⟨(hexB X).toArray⟩ : ByteArray).size ≤ 33554432 := by rw [size_list, hexB_len]; omega
  have hcc : ¬ 9223372036854775807 < 2 + (⟨(hexB X).toArray⟩ : ByteArray).size := by omega
  have FC := front_cat (hexB X)
  rw [← FC]
  clear FC hn hb ha hc
  generalize (⟨(hexB X).toArray⟩ : ByteArray) = T at *
  generalize X.length = m at *
  go_enter Tryd.func14, Tryd.ntmps14
  go_wp2_with fail
  with_reducible refine hs.mono ?_
  rintro e1 w1 ⟨rfl, b1⟩
  have HB : Hid (Below w.heap.size w w1) := b1
  clear b1 hs lT
  go_wp2
  simp [bodyPost, results, Tryd.results14, go_sem]
  exact HB.out
set_option maxRecDepth 100000 in
theorem rdata_long {a : Option Addr} {n c : Nat} (hn : 16777216 < n) (w : World) :
    Calls Tryd.prog 14 #[.slice a n c] w fun e w' => e = .returned (.tuple #[.string ⟨#[]⟩, .int .i64 2]) ∧ Below w.heap.size w w' := by
  have q1 : (16777216 : Int) < (n : Int) := by omega
  go_enter Tryd.func14, Tryd.ntmps14
  go_wp2
  simp [bodyPost, results, Tryd.results14, go_sem]
  exact Below.refl _ _
set_option maxRecDepth 100000 in
theorem rhash_any {A : List Int} (hA : A.length = 32) (hb : ∀ i, 0 ≤ A.getD i 0 ∧ A.getD i 0 < 256) (w : World) :
    Calls Tryd.prog 23 #[.agg (A.map (Value.int .u8)).toArray] w fun e w' => e = .returned (.string ⟨([48, 120] ++ hexB A).toArray⟩) ∧ Below w.heap.size w w' := by
  obtain ⟨M, HM⟩ : ∃ M, Hid (M = (A.map (Value.int .u8)).toArray) := ⟨_, rfl⟩
  rw [← HM.out]
  have hc : ∀ i, i < 32 → (w.alloc (.cells M 36)).cell? ⟨w.heap.size, 0 + i, none⟩ = some (.int .u8 (A.getD i 0)) := fun i hi => by
    have e : M[i]? = some (.int .u8 (A.getD i 0)) := by
      rw [HM.out, List.getElem?_toArray, List.getElem?_map, List.getElem?_eq_getElem (by omega), List.getD, List.getElem?_eq_getElem (by omega)]; rfl
    simp [go_sem, e]
  have hw := rsmall_any (g := w.heap.size) (o := 0) (n := 32) (c := 32) hA (by decide) (by decide) hb _ hc
  have hcc : ¬ 9223372036854775807 < 2 + (⟨(hexB A).toArray⟩ : ByteArray).size := by rw [size_list, hexB_len, hA]; decide
  have FC := front_cat (hexB A)
  rw [← FC]
  clear FC
  generalize (⟨(hexB A).toArray⟩ : ByteArray) = T at *
  clear hc hb HM hA
  go_enter Tryd.func23, Tryd.ntmps23
  go_wp2_with fail
  with_reducible refine hw.mono ?_
  rintro e1 w1 ⟨rfl, b1⟩
  have HB : Hid (Below w.heap.size w w1) := ((Below.refl _ _).alloc (Nat.le_refl _) _).trans (b1.mono (by simp))
  clear b1 hw
  go_wp2
  simp [bodyPost, results, Tryd.results23, go_sem]
  exact HB.out
set_option maxRecDepth 100000 in
theorem ruint_any {u : Int} (hu : Word u) (w : World) :
    Calls Tryd.prog 20 #[.int .u64 u] w fun e w' => e = .returned (.string ⟨([48, 120] ++ qtx u (hiD u + 1)).toArray⟩) ∧ Below w.heap.size w w' := by
  obtain ⟨z0, z1, z2, z3⟩ := l0_small hu.1 hu.2
  have C2 : Hid (∀ w, Calls Tryd.prog 18 #[.agg #[.int .u64 u, .int .u64 0, .int .u64 0, .int .u64 0]] w fun e w' => e = .returned (.string ⟨([48, 120] ++ qtx u (hiD u + 1)).toArray⟩) ∧ Below w.heap.size w w') := fun w => by
    have := rquant_any (n := u) ⟨hu.1, by have := hu.2; omega⟩ w
    rw [z0, z1, z2, z3] at this
    exact this
  generalize [48, 120] ++ qtx u (hiD u + 1) = T at *
  clear hu z0 z1 z2 z3
  go_enter Tryd.func20, Tryd.ntmps20
  go_wp2_with fail
  with_reducible refine (C2.out _).mono ?_
  rintro e1 w2 ⟨rfl, b2⟩
  have HB : Hid (Below w.heap.size w w2) := b2
  clear b2 C2
  go_wp2
  simp [bodyPost, results, Tryd.results20, go_sem]
  exact HB.out
end Go.Proofs.YtidchaaahgnabaaDoor

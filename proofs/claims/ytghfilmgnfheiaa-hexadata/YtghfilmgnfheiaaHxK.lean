import Derived.Test.YtghfilmgnfheiaaHxJ
namespace Go.Proofs.Ytghfilmgnfheiaa
open Go.RowKit Go.Sort

theorem rep_getD {n i : Nat} {x : Int} (h : i < n) : (List.replicate n x).getD i 0 = x := by
  rw [List.getD, List.getElem?_replicate, if_pos h]; rfl
theorem app_getD {P : List Int} {n : Nat} {x : Int} (h : 0 < n) : (P ++ List.replicate n x).getD P.length 0 = x := by
  rw [List.getD, List.getElem?_append_right (Nat.le_refl _), Nat.sub_self, List.getElem?_replicate, if_pos h]; rfl
theorem OwnB.slice {B : Nat} {W : World} {v : Value} {X : List Int} (h : OwnB B W v X) : ∃ a g c, v = .slice a X.length c ∧ (X ≠ [] → a = some ⟨g, 0, none⟩) := by
  obtain ⟨a, g, c, h1, h2, _⟩ := h.rd
  exact ⟨a, g, c, h1, h2⟩
theorem OwnB.fill {B g n cap i : Nat} {W : World} {X : List Int} {x : Int} (hX : X.length = n) (hi : i < n) (h : OwnB B W (.slice (some ⟨g, 0, none⟩) n cap) (part (List.replicate n x) X i)) :
    OwnB B (W.setCell ⟨g, i, none⟩ (.int .u8 x)) (.slice (some ⟨g, 0, none⟩) n cap) (part (List.replicate n x) X (i + 1)) ∧ W.grownBy (W.setCell ⟨g, i, none⟩ (.int .u8 x)) (some g) := by
  have hl : (List.replicate n x).length = X.length := by rw [List.length_replicate, hX]
  have := h.set (by rw [part_len hl, hX]) i x
  have e := part_set (i := i) hl (by omega)
  rw [rep_getD hi] at e
  rw [e] at this
  exact this
theorem OwnB.full {B n : Nat} {W : World} {v : Value} {X : List Int} {x : Int} (hX : X.length = n) (h : OwnB B W v (part (List.replicate n x) X n)) : OwnB B W v (List.replicate n x) := by
  have e := part_all (P := List.replicate n x) (X := X) (by rw [List.length_replicate, hX])
  rw [hX] at e
  rw [e] at h
  exact h
theorem rep_snoc (k : Nat) (x : Int) : List.replicate k x ++ [x] = List.replicate (k + 1) x := by rw [List.replicate_succ']
theorem wpList_append_c {ops : Array Oper} {rest : List Oper} {o : Oper} {a : Act} {Q : Exit → Act → World → Prop} {w wr : World} {B n : Nat} {v1 v2 c d : Value} {P1 Q1 P2 Q2 : List Int} (u : Int) (hgd : o.guard = none) (s x : Operand)
    (ho : o.op = .call { callee := .builtin .append, args := #[s, x], argTypes := #[22, 22] }) (cc : Nat) (hs : a.eval s = c) (hx : a.eval x = .slice (some ⟨wr.heap.size, 0, none⟩) 1 cc)
    (h : Ap B w wr v1 v2 c d P1 Q1 P2 Q2) (hn : P1.length + Q1.length = n) (hl : n < 1073741824) (hB : B ≤ w.heap.size)
    (hK : ∀ g cap w', Ap B w w' v1 v2 (.slice (some ⟨g, 0, none⟩) (n + 1) cap) d P1 (Q1 ++ [u]) P2 Q2 → wpList Try.prog ops Q rest (a.put o.dst (.slice (some ⟨g, 0, none⟩) (n + 1) cap)) w') :
    wpList Try.prog ops Q (o :: rest) a (wr.alloc (.cells #[.int .u8 u] 5)) := by
  have e : (P1 ++ Q1).length = n := by rw [List.length_append, hn]
  have hb : Below wr.heap.size wr (wr.alloc (.cells #[.int .u8 u] 5)) := (Below.refl _ _).alloc (Nat.le_refl _) _
  have h' := h.keep hb
  refine wpList_append_two hgd s x ho B c (P1 ++ Q1) u ⟨wr.heap.size, 0, none⟩ cc hs hx h'.oc (by omega) (by have := h.two.size; simp; omega) (cell_oneH _ _ _) ?_
  intro g cap w' h1 h2 h3
  have := h'.put h1 h2 h3
  rw [e] at this ⊢
  exact hK g cap w' this
theorem wpList_append_d {ops : Array Oper} {rest : List Oper} {o : Oper} {a : Act} {Q : Exit → Act → World → Prop} {w wr : World} {B n : Nat} {v1 v2 c d : Value} {P1 Q1 P2 Q2 : List Int} (u : Int) (hgd : o.guard = none) (s x : Operand)
    (ho : o.op = .call { callee := .builtin .append, args := #[s, x], argTypes := #[22, 22] }) (cc : Nat) (hs : a.eval s = d) (hx : a.eval x = .slice (some ⟨wr.heap.size, 0, none⟩) 1 cc)
    (h : Ap B w wr v1 v2 c d P1 Q1 P2 Q2) (hn : P2.length + Q2.length = n) (hl : n < 1073741824) (hB : B ≤ w.heap.size)
    (hK : ∀ g cap w', Ap B w w' v1 v2 c (.slice (some ⟨g, 0, none⟩) (n + 1) cap) P1 Q1 P2 (Q2 ++ [u]) → wpList Try.prog ops Q rest (a.put o.dst (.slice (some ⟨g, 0, none⟩) (n + 1) cap)) w') :
    wpList Try.prog ops Q (o :: rest) a (wr.alloc (.cells #[.int .u8 u] 5)) :=
  wpList_append_c u hgd s x ho cc hs hx h.swap hn hl hB fun g cap w' h' => hK g cap w' h'.swap
set_option maxRecDepth 100000 in
set_option maxHeartbeats 8000000 in
theorem apart8_any {B : Nat} {v1 v2 : Value} {X1 X2 : List Int} (b1 : X1.length < 536870912) (b2 : X2.length < 536870912) (w : World) (h1 : OwnB B w v1 X1) (h2 : OwnB B w v2 X2) (hB : B ≤ w.heap.size) (dis : ∀ k, v1.ownBlock = some k → v2.ownBlock ≠ some k) :
    Calls Try.prog 9 #[v1, v2] w fun e w' => e = .returned (.bool true) ∧ Two w w' v1.ownBlock v2.ownBlock := by
  obtain ⟨a1, g1, c1, rfl, ha1⟩ := h1.slice
  obtain ⟨a2, g2, c2, rfl, ha2⟩ := h2.slice
  obtain ⟨n1, en1⟩ : ∃ n, n = X1.length := ⟨_, rfl⟩
  obtain ⟨n2, en2⟩ : ∃ n, n = X2.length := ⟨_, rfl⟩
  rw [← en1] at b1 h1 dis ⊢
  rw [← en2] at b2 h2 dis ⊢
  have HX : Hid ((X1 ≠ [] → a1 = some ⟨g1, 0, none⟩) ∧ (X2 ≠ [] → a2 = some ⟨g2, 0, none⟩) ∧ X1.length = n1 ∧ X2.length = n2) := ⟨ha1, ha2, en1.symm, en2.symm⟩
  have HN1 : Hid (n1 ≠ 0 → a1 = some ⟨g1, 0, none⟩) := fun h => ha1 (fun e => h (by rw [en1, e]; rfl))
  have HN2 : Hid (n2 ≠ 0 → a2 = some ⟨g2, 0, none⟩) := fun h => ha2 (fun e => h (by rw [en2, e]; rfl))
  have HI : Hid (OwnB B w (.slice a1 n1 c1) X1 ∧ OwnB B w (.slice a2 n2 c2) X2 ∧ B ≤ w.heap.size) := ⟨h1, h2, hB⟩
  have HD : Hid ((∀ k, (Value.slice a1 n1 c1).ownBlock = some k → (Value.slice a2 n2 c2).ownBlock ≠ some k) ∧ (∀ k, (Value.slice a1 n1 c1).ownBlock = some k → k < w.heap.size) ∧ (∀ k, (Value.slice a2 n2 c2).ownBlock = some k → k < w.heap.size)) :=
    ⟨dis, fun k hk => (World.ownsRow.lt h1 k hk).2, fun k hk => (World.ownsRow.lt h2 k hk).2⟩
  have c1' : (n1 : Int) < 536870912 := by omega
  have c2' : (n2 : Int) < 536870912 := by omega
  have HB : Hid (n1 < 536870912 ∧ n2 < 536870912) := ⟨b1, b2⟩
  clear ha1 ha2 h1 h2 hB dis en1 en2 b1 b2
  go_enter Try.func9, Try.ntmps9
  go_wp2_with fail
  go_loopg [5] n1 (fun k iv wr => ∃ i : Nat, k = n1 - i ∧ i ≤ n1 ∧ iv = .int .i64 (i : Int) ∧ OwnB B wr (.slice a1 n1 c1) (part (List.replicate n1 1) X1 i) ∧ OwnB B wr (.slice a2 n2 c2) X2 ∧ Two w wr (Value.slice a1 n1 c1).ownBlock (Value.slice a2 n2 c2).ownBlock)
  case atStart => exact ⟨0, rfl, Nat.zero_le _, rfl, by rw [part_zero]; exact HI.out.1, HI.out.2.1, Two.refl _ _ _⟩
  case round =>
    obtain ⟨i, hk, hi, rfl, o1, o2, two⟩ := hrel
    have HK : Hid (gk = n1 - i) := hk
    have HO : Hid (OwnB B wr (.slice a1 n1 c1) (part (List.replicate n1 1) X1 i) ∧ OwnB B wr (.slice a2 n2 c2) X2 ∧ Two w wr (Value.slice a1 n1 c1).ownBlock (Value.slice a2 n2 c2).ownBlock) := ⟨o1, o2, two⟩
    clear hk o1 o2 two
    by_cases h8 : i < n1
    · have hlt : (i : Int) < (n1 : Int) := by omega
      have hlt' : i < n1 := by omega
      obtain rfl := HN1.out (by omega)
      have lp : (part (List.replicate n1 1) X1 i).length = n1 := by rw [part_len (by rw [List.length_replicate, HX.out.2.2.1]), HX.out.2.2.1]
      have cQ := HO.out.1.cell lp hlt'
      have fQ := HO.out.1.free lp i
      have HS' : Hid _ := OwnB.fill HX.out.2.2.1 hlt' HO.out.1
      clear lp
      go_wp2
      go_roundg (n1 - (i + 1))
      case measure => have := HK.out; omega
      case rel => exact ⟨i + 1, rfl, by omega, by rw [Int.natCast_add]; rfl, HS'.out.1, World.ownsRow.kept HO.out.2.1 HS'.out.2 (by
        cases hd : Value.ownBlock (Value.slice a2 n2 c2) with
        | none => exact .inl rfl
        | some k => exact .inr fun e => HD.out.1 k e.symm hd), HO.out.2.2.grown HS'.out.2 (fun k hk => .inl rfl)⟩
    obtain rfl : n1 = i := by omega
    have hlt : ¬ ((n1 : Int) < (n1 : Int)) := by omega
    clear HK
    have HO1 : Hid (OwnB B wr (.slice a1 n1 c1) (List.replicate n1 1) ∧ OwnB B wr (.slice a2 n2 c2) X2 ∧ Two w wr (Value.slice a1 n1 c1).ownBlock (Value.slice a2 n2 c2).ownBlock) := ⟨OwnB.full HX.out.2.2.1 HO.out.1, HO.out.2⟩
    clear HO hi
    go_wp2_with fail
    clear hlt
    have HW1 : Hid (OwnB B wr (.slice a1 n1 c1) (List.replicate n1 1) ∧ OwnB B wr (.slice a2 n2 c2) X2 ∧ Two w wr (Value.slice a1 n1 c1).ownBlock (Value.slice a2 n2 c2).ownBlock) := HO1.out
    clear HO1
    go_loopg [6] n2 (fun k iv wr => ∃ i : Nat, k = n2 - i ∧ i ≤ n2 ∧ iv = .int .i64 (i : Int) ∧ OwnB B wr (.slice a1 n1 c1) (List.replicate n1 1) ∧ OwnB B wr (.slice a2 n2 c2) (part (List.replicate n2 2) X2 i) ∧ Two w wr (Value.slice a1 n1 c1).ownBlock (Value.slice a2 n2 c2).ownBlock)
    case atStart => exact ⟨0, rfl, Nat.zero_le _, rfl, HW1.out.1, by rw [part_zero]; exact HW1.out.2.1, HW1.out.2.2⟩
    case round =>
      obtain ⟨i, hk, hi, rfl, o1, o2, two⟩ := hrel
      clear HW1
      have HK : Hid (gk = n2 - i) := hk
      have HO : Hid (OwnB B wr (.slice a1 n1 c1) (List.replicate n1 1) ∧ OwnB B wr (.slice a2 n2 c2) (part (List.replicate n2 2) X2 i) ∧ Two w wr (Value.slice a1 n1 c1).ownBlock (Value.slice a2 n2 c2).ownBlock) := ⟨o1, o2, two⟩
      clear hk o1 o2 two
      by_cases h9 : i < n2
      · have hlt : (i : Int) < (n2 : Int) := by omega
        obtain rfl := HN2.out (by omega)
        have lp : (part (List.replicate n2 2) X2 i).length = n2 := by rw [part_len (by rw [List.length_replicate, HX.out.2.2.2]), HX.out.2.2.2]
        have cQ := HO.out.2.1.cell lp h9
        have fQ := HO.out.2.1.free lp i
        have HS' : Hid _ := OwnB.fill HX.out.2.2.2 h9 HO.out.2.1
        clear lp
        go_wp2
        go_roundg (n2 - (i + 1))
        case measure => have := HK.out; omega
        case rel => exact ⟨i + 1, rfl, by omega, by rw [Int.natCast_add]; rfl, World.ownsRow.kept HO.out.1 HS'.out.2 (by
          cases hd : Value.ownBlock (Value.slice a1 n1 c1) with
          | none => exact .inl rfl
          | some k => exact .inr fun e => HD.out.1 k hd e.symm), HS'.out.1, HO.out.2.2.grown HS'.out.2 (fun k hk => .inr (.inl rfl))⟩
      obtain rfl : n2 = i := by omega
      have hlt : ¬ ((n2 : Int) < (n2 : Int)) := by omega
      clear HK
      have HA : Hid (Ap B w wr (.slice a1 n1 c1) (.slice a2 n2 c2) (.slice a1 n1 c1) (.slice a2 n2 c2) (List.replicate n1 1) [] (List.replicate n2 2) []) := Ap.begin HO.out.1 (OwnB.full HX.out.2.2.2 HO.out.2.1) HO.out.2.2 HD.out.2.1 HD.out.2.2 HD.out.1
      have HB2 : Hid (B ≤ w.heap.size) := HI.out.2.2
      clear HO hi HI HX
      go_wp2_with first | (at_builtin; (refine wpList_append_c (n := n1) 3 rfl _ _ rfl _ rfl rfl HA.out (by simp) (by have := HB.out; omega) HB2.out ?_); (intro gc cc3 w3 HA3); (have HC : Hid _ := HA3); (clear HA3)) | (at_builtin; (refine wpList_append_d (n := n2) 4 rfl _ _ rfl _ rfl rfl HC.out (by simp) (by have := HB.out; omega) HB2.out ?_); (intro gd cd3 w4 HA4); (have HE : Hid _ := HA4); (clear HA4))
      have HG : Hid (Ap B w w4 (.slice a1 n1 c1) (.slice a2 n2 c2) (.slice (some ⟨gc, 0, none⟩) (n1 + 1) cc3) (.slice (some ⟨gd, 0, none⟩) (n2 + 1) cd3) (List.replicate n1 1) (List.replicate 1 3) (List.replicate n2 2) (List.replicate 1 4)) := HE.out
      clear HE HC HA hlt
      go_loopg [7, 8, 9] 99 (fun k cv dv iv wr => ∃ j : Nat, k = 99 - j ∧ j ≤ 99 ∧ iv = .int .i64 (j : Int) ∧ Ap B w wr (.slice a1 n1 c1) (.slice a2 n2 c2) cv dv (List.replicate n1 1) (List.replicate (j + 1) 3) (List.replicate n2 2) (List.replicate (j + 1) 4))
      case atStart => exact ⟨0, rfl, Nat.zero_le _, rfl, HG.out⟩
      case round =>
        clear HG
        obtain ⟨j, hk, hj, rfl, ap⟩ := hrel
        have HK : Hid (gk = 99 - j) := hk
        clear hk
        by_cases h10 : j < 99
        · have hlt : (j : Int) < 99 := by omega
          have HA : Hid _ := ap
          clear ap
          go_wp2_with first | (at_builtin; (refine wpList_append_c (n := n1 + 1 + j) 3 rfl _ _ rfl _ rfl rfl HA.out (by rw [List.length_replicate, List.length_replicate]; omega) (by have := HB.out; omega) HB2.out ?_); (intro gc2 cc2 w5 HA5); (have HC : Hid _ := HA5); (clear HA5)) | (at_builtin; (refine wpList_append_d (n := n2 + 1 + j) 4 rfl _ _ rfl _ rfl rfl HC.out (by rw [List.length_replicate, List.length_replicate]; omega) (by have := HB.out; omega) HB2.out ?_); (intro gd2 cd2 w6 HA6); (have HE : Hid _ := HA6); (clear HA6))
          go_roundg (99 - (j + 1))
          case measure => have := HK.out; omega
          case rel => exact ⟨j + 1, rfl, by omega, by rw [Int.natCast_add]; rfl, by rw [← rep_snoc (j + 1) 3, ← rep_snoc (j + 1) 4]; exact HE.out⟩
        obtain rfl : j = 99 := by omega
        have hlt : ¬ (((99 : Nat) : Int) < 99) := by omega
        clear HK h10 hj
        have l7 : (List.replicate n1 (1 : Int) ++ List.replicate (99 + 1) 3).length = n1 + 100 := by simp
        have l8 : (List.replicate n2 (2 : Int) ++ List.replicate (99 + 1) 4).length = n2 + 100 := by simp
        obtain ⟨gc2, cc2, rfl, _, _⟩ := World.ownsRow.form ap.oc (by omega)
        obtain ⟨gd2, cd2, rfl, _, _⟩ := World.ownsRow.form ap.od (by omega)
        rw [l7, l8] at ap
        have x7 := OwnB.cell ap.oc l7 (i := n1) (by omega)
        have x8 := OwnB.cell ap.od l8 (i := n2) (by omega)
        have y7 := app_getD (P := List.replicate n1 1) (n := 99 + 1) (x := 3) (by decide)
        have y8 := app_getD (P := List.replicate n2 2) (n := 99 + 1) (x := 4) (by decide)
        rw [List.length_replicate] at y7 y8
        rw [y7] at x7
        rw [y8] at x8
        rw [l7, l8]
        have HR : Hid (Rd wr (.slice a1 n1 c1) (List.replicate n1 1) ∧ Rd wr (.slice a2 n2 c2) (List.replicate n2 2) ∧ Two w wr (Value.slice a1 n1 c1).ownBlock (Value.slice a2 n2 c2).ownBlock) := ⟨ap.ra, ap.rb, ap.two⟩
        clear ap l7 l8 y7 y8
        go_wp2_with fail
        clear hlt
        obtain ⟨W, HW⟩ : ∃ W, Hid (W = wr) := ⟨_, rfl⟩
        have HR' : Hid (Rd wr (.slice a1 n1 c1) (List.replicate n1 1)) := HR.out.1
        have HR2 : Hid (Rd wr (.slice a2 n2 c2) (List.replicate n2 2)) := HR.out.2.1
        go_loopg [10] n1 (fun k iv wq => ∃ i : Nat, k = n1 - i ∧ i ≤ n1 ∧ iv = .int .i64 (i : Int) ∧ wr = wq)
        case atStart => exact ⟨0, rfl, Nat.zero_le _, rfl, rfl⟩
        case round =>
          obtain ⟨i, hk, hi, rfl, rfl⟩ := hrel
          have HK : Hid (gk = n1 - i) := hk
          clear hk
          by_cases h11 : i < n1
          · have hlt : (i : Int) < (n1 : Int) := by omega
            obtain ⟨gq, cq, eq, _, hq⟩ := HR'.out.block (fun e => by have := congrArg List.length e; simp at this; omega)
            injection eq with e1 e2 e3
            subst e1
            have xq := hq i (by rw [List.length_replicate]; exact h11)
            rw [rep_getD h11] at xq
            clear hq e2 e3
            go_wp2
            go_roundg (n1 - (i + 1))
            case measure => have := HK.out; omega
            case rel => exact ⟨i + 1, rfl, by omega, by rw [Int.natCast_add]; rfl, rfl⟩
          obtain rfl : n1 = i := by omega
          have hlt : ¬ ((n1 : Int) < (n1 : Int)) := by omega
          clear HK h11 hi
          go_wp2_with fail
          clear hlt
          go_loopg [11] n2 (fun k iv wq => ∃ i : Nat, k = n2 - i ∧ i ≤ n2 ∧ iv = .int .i64 (i : Int) ∧ wr = wq)
          case atStart => exact ⟨0, rfl, Nat.zero_le _, rfl, rfl⟩
          case round =>
            obtain ⟨i, hk, hi, rfl, rfl⟩ := hrel
            have HK : Hid (gk = n2 - i) := hk
            clear hk
            by_cases h12 : i < n2
            · have hlt : (i : Int) < (n2 : Int) := by omega
              obtain ⟨gq, cq, eq, _, hq⟩ := HR2.out.block (fun e => by have := congrArg List.length e; simp at this; omega)
              injection eq with e1 e2 e3
              subst e1
              have xq := hq i (by rw [List.length_replicate]; exact h12)
              rw [rep_getD h12] at xq
              clear hq e2 e3
              go_wp2
              go_roundg (n2 - (i + 1))
              case measure => have := HK.out; omega
              case rel => exact ⟨i + 1, rfl, by omega, by rw [Int.natCast_add]; rfl, rfl⟩
            obtain rfl : n2 = i := by omega
            have hlt : ¬ ((n2 : Int) < (n2 : Int)) := by omega
            have k1 : (n1 : Int) < ((n1 + 100 : Nat) : Int) := by omega
            have k2 : (n2 : Int) < ((n2 + 100 : Nat) : Int) := by omega
            clear HK h12 hi
            go_wp2
            go_ret
            exact ⟨by simp, HR.out.2.2⟩
end Go.Proofs.Ytghfilmgnfheiaa

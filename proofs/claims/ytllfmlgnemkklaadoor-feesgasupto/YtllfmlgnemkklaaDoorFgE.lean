import Derived.Test.YtllfmlgnemkklaaDoorFgD
import Derived.Test.YtllfmlgnemkklaaDoorFxD
/- Layer 18: the document's Intrinsic, Floor, Enough. -/
namespace Go.Proofs.YtllfmlgnemkklaaDoor
open Go.RowKit Go.Sort
open tq
set_option maxRecDepth 100000 in
set_option maxHeartbeats 4000000 in
theorem rzeros_any {a : Option Addr} {b o c : Nat} {X : List Int} (hl : X.length < 1000000000) (w : World) (hG : BtG w a b o c X) :
    Calls Tryd.prog 30 #[.slice a X.length c] w fun e w' => e = .returned (.tuple #[.int .u64 (zer X X.length : Nat), .int .u64 ((X.length : Int) - (zer X X.length : Nat))]) ∧ Below w.heap.size w w' := by
  have GR : Hid (∀ W, Below w.heap.size w W → BtG W a b o c X) := fun W B => hG.keep B
  have n1 : (X.length : Int) < 1000000000 := by omega
  have AA : Hid (X = [] ∨ a = some ⟨b, o, none⟩) := hG.2.1
  clear hl hG
  go_enter Tryd.func30, Tryd.ntmps30
  go_wp2_with fail
  go_loopg [4, 5, 6] X.length (fun k av bv iv wr => ∃ i : Nat, k = X.length - i ∧ i ≤ X.length ∧ av = .int .u64 (zer X i : Nat) ∧ bv = .int .u64 ((i : Int) - (zer X i : Nat)) ∧ iv = .int .i64 (i : Int) ∧ Below w.heap.size w wr)
  case atStart => exact ⟨0, rfl, Nat.zero_le _, rfl, rfl, rfl, Below.refl _ _⟩
  case round =>
    obtain ⟨i, hk, hi, rfl, rfl, rfl, B⟩ := hrel
    have HK : Hid (gk = X.length - i) := hk
    clear hk
    by_cases h8 : i = X.length
    · subst h8
      clear HK
      go_wp2
      simp [bodyPost, results, Tryd.results30, go_sem]
      exact B
    · have hlt : i < X.length := by omega
      have hlt' : (i : Int) < (X.length : Int) := by omega
      obtain rfl : a = some ⟨b, o, none⟩ := by
        rcases AA.out with e | e
        · rw [e] at hlt; simp at hlt
        · exact e
      have g := (GR.out wr B).2.2.1 i hlt
      have NX : Hid (zer X (i + 1) = zer X i + (if X.getD i 0 = 0 then 1 else 0)) := rfl
      have ZL : Hid (zer X i ≤ i) := zer_le X i
      skip
      clear h8 hi
      have z1 : IntKind.u64.wrap ((zer X i : Int) + 1) = ((zer X i : Nat) : Int) + 1 := by have := ZL.out; rw [IntKind.wrap_u64]; omega
      have z2 : IntKind.u64.wrap ((i : Int) - (zer X i : Int) + 1) = (i : Int) - (zer X i : Int) + 1 := by have := ZL.out; rw [IntKind.wrap_u64]; omega
      generalize zer X i = z at *
      by_cases c : X.getD i 0 = 0
      · have NZ : Hid (zer X (i + 1) = z + 1) := by have := NX.out; rwa [if_pos c] at this
        rw [c] at g
        clear NX c
        go_wp2
        go_roundg (X.length - (i + 1))
        case measure => have := HK.out; omega
        case rel => exact ⟨i + 1, rfl, hlt, by rw [NZ.out]; go_num, by rw [NZ.out]; go_num, by go_num, B⟩
      · have NZ : Hid (zer X (i + 1) = z) := by have := NX.out; rwa [if_neg c] at this
        have c1 : (X.getD i 0 == 0) = false := by simpa using c
        generalize X.getD i 0 = x at *
        clear NX c
        go_wp2
        go_roundg (X.length - (i + 1))
        case measure => have := HK.out; omega
        case rel => exact ⟨i + 1, rfl, hlt, by rw [NZ.out], by rw [NZ.out]; go_num, by go_num, B⟩
set_option maxRecDepth 100000 in
set_option maxHeartbeats 4000000 in
theorem rFloor_any {t : Txv} (hd : Hid (BdG t)) (h2 : t.Hsl.length < 1000000000) (w : World) (hG : TxG w t) : Calls Tryd.prog 12 #[.agg (txC t).toArray] w fun e w' => e = .returned (.tuple #[.int .u64 (flV t), .int .i64 (dfN t)]) ∧ Below w.heap.size w w' := by
  have h20 := hG.to.1
  have hl := hd.out.1
  have ZE : Hid (∀ W, Below w.heap.size w W → Calls Tryd.prog 30 #[.slice t.Da t.Dl.length t.Dc] W fun e w' => e = .returned (.tuple #[.int .u64 (zer t.Dl t.Dl.length : Nat), .int .u64 ((t.Dl.length : Int) - (zer t.Dl t.Dl.length : Nat))]) ∧ Below W.heap.size W w') := fun W B => rzeros_any hl W (hG.D.keep B)
  have DR : Hid (∀ W, Below w.heap.size w W → Calls Tryd.prog 29 #[.agg (txC t).toArray] W fun e w' => e = .returned (.int .i64 (dfN t)) ∧ Below W.heap.size W w') := fun W B => rdraft_any W (hG.keep B) (hd.out.two h2).1 (hd.out.two h2).2
  have hX := TxB.new (W := w) (ty := 32) h20
  have hM := hX.all
  have hD := hX.D
  have sz := size_tx h20
  have zl := zer_le t.Dl t.Dl.length
  have EV : Hid (flV t = if dfN t = 0 then 21000 + (10 * (zer t.Dl t.Dl.length : Nat) + 40 * ((t.Dl.length : Int) - (zer t.Dl t.Dl.length : Nat))) else 0) := rfl
  clear hX hd h2 hG h20
  generalize txC t = M at *
  generalize flV t = v at *
  generalize dfN t = q at *
  generalize zer t.Dl t.Dl.length = z at *
  generalize t.Dl.length = n at *
  by_cases c : q = 0
  · subst c
    have ev : Hid (v = 21000 + 10 * (z : Int) + 40 * ((n : Int) - (z : Int))) := by have := EV.out; rw [if_pos rfl] at this; show _ = _; omega
    have f1 : IntKind.u64.wrap (10 * (z : Int)) = 10 * (z : Int) := by rw [IntKind.wrap_u64]; omega
    have f2 : IntKind.u64.wrap (21000 + 10 * (z : Int)) = 21000 + 10 * (z : Int) := by rw [IntKind.wrap_u64]; omega
    have f3 : IntKind.u64.wrap (40 * ((n : Int) - (z : Int))) = 40 * ((n : Int) - (z : Int)) := by rw [IntKind.wrap_u64]; omega
    have f4 : IntKind.u64.wrap (21000 + 10 * (z : Int) + 40 * ((n : Int) - (z : Int))) = 21000 + 10 * (z : Int) + 40 * ((n : Int) - (z : Int)) := by rw [IntKind.wrap_u64]; omega
    clear EV hl zl
    go_enter Tryd.func12, Tryd.ntmps12
    refine wp_seq_k fun K0 h0 => ?_
    have H0 : Hid _ := h0
    clear h0
    go_wp2
    refine H0.out _ _ ?_
    clear H0 K0
    refine wp_world (fun W => Below w.heap.size w W ∧ W.rangeAt w.heap.size 0 M ∧ W.cell? ⟨w.heap.size, 41, none⟩ = some (.slice t.Da n t.Dc)) ⟨(Below.refl _ _).alloc (Nat.le_refl _) _, hM, hD⟩ ?_
    clear hM hD
    rintro W ⟨B, rM, cD⟩
    refine wp_seq_k fun K1 h1 => ?_
    have H1 : Hid _ := h1
    clear h1
    go_wp2_with first
      | (refine wpList_load_midT (by rfl) 32 _ rfl w.heap.size 0 rfl M _ rM Tryd.underlying32 rfl sz ?_)
      | (go_at_call 29; refine (DR.out _ B).mono ?_; rintro e w2 ⟨rfl, hb⟩; replace B := B.trans (hb.mono B.size); replace cD := cell_keep hb cD; clear hb rM)
    refine H1.out _ _ ?_
    clear H1 K1
    go_wp2_with first
      | (go_at_call 30; refine (ZE.out _ B).mono ?_; rintro e w3 ⟨rfl, hb⟩; replace B := B.trans (hb.mono B.size); clear hb)
    simp [bodyPost, results, Tryd.results12, go_sem]
    exact ⟨ev.out.symm, B⟩
  · have ev : v = 0 := by have := EV.out; rwa [if_neg c] at this
    subst ev
    have c1 : (q != 0) = true := bne_iff_ne.2 c
    clear EV ZE hD zl hl
    go_enter Tryd.func12, Tryd.ntmps12
    refine wp_seq_k fun K0 h0 => ?_
    have H0 : Hid _ := h0
    clear h0
    go_wp2
    refine H0.out _ _ ?_
    clear H0 K0
    refine wp_world (fun W => Below w.heap.size w W ∧ W.rangeAt w.heap.size 0 M) ⟨(Below.refl _ _).alloc (Nat.le_refl _) _, hM⟩ ?_
    clear hM
    rintro W ⟨B, rM⟩
    go_wp2_with first
      | (refine wpList_load_midT (by rfl) 32 _ rfl w.heap.size 0 rfl M _ rM Tryd.underlying32 rfl sz ?_)
      | (go_at_call 29; refine (DR.out _ B).mono ?_; rintro e w2 ⟨rfl, hb⟩; replace B := B.trans (hb.mono B.size); clear hb)
    simp [bodyPost, results, Tryd.results12, go_sem]
    exact B
set_option maxRecDepth 100000 in
set_option maxHeartbeats 8000000 in
/-- The document's Intrinsic behind its Draft. -/
theorem rintr_walk {t : Txv} {M : List Value} {z n kn en un : Nat} {w : World} {cr : Bool} (hn : n < 1000000000) (zl : z ≤ n) (hun : un < 100000000) (hen : en < 10000000) (ee : t.El.length = en)
    (KB : Hid (∀ i, i < en → (t.El.getD i zEn).ks.length < 10000000)) (KE : Hid (∀ i, i ≤ en → keyE t.El i ≤ i * 10000000)) (ek : keyE t.El en = kn) (GE : Hid (∀ W, Below w.heap.size w W → EsG W t.Ea t.Eb t.Eo t.Ec t.El))
    (ZE : Hid (∀ W, Below w.heap.size w W → Calls Tryd.prog 30 #[.slice t.Da n t.Dc] W fun e w' => e = .returned (.tuple #[.int .u64 (z : Nat), .int .u64 ((n : Int) - (z : Nat))]) ∧ Below W.heap.size W w'))
    (DR : Hid (∀ W, Below w.heap.size w W → Calls Tryd.prog 29 #[.agg M.toArray] W fun e w' => e = .returned (.int .i64 0) ∧ Below W.heap.size W w'))
    (sz : (Tryd.prog.info? 32).map (·.size) = some M.length) (hM : M[16]? = some (.bool cr) ∧ M[41]? = some (.slice t.Da n t.Dc) ∧ M[42]? = some (.slice t.Ea en t.Ec) ∧ M[48]? = some (.slice t.Ua un t.Uc)) :
    Calls Tryd.prog 11 #[.agg M.toArray] w fun e w' => e = .returned (.tuple #[.int .u64 (21000 + 4 * (z : Int) + 16 * ((n : Int) - (z : Int)) + (if cr then 32000 + 2 * (((n + 31) / 32 : Nat) : Int) else 0) + (2400 * (en : Int) + 1900 * (kn : Int)) + 25000 * (un : Int)), .int .i64 0]) ∧ Below w.heap.size w w' := by
  have KN : Hid (kn ≤ en * 10000000 ∧ en < 10000000 ∧ un < 100000000 ∧ z ≤ n ∧ n < 1000000000) := ⟨by rw [← ek]; exact KE.out en (Nat.le_refl _), hen, hun, zl, hn⟩
  have hm : Hid _ := hM
  have EL : Hid (t.El.length = en) := ee
  have EK : Hid (keyE t.El en = kn) := ek
  have f1 : IntKind.u64.wrap (4 * (z : Int)) = 4 * (z : Int) := by rw [IntKind.wrap_u64]; omega
  have f2 : IntKind.u64.wrap (21000 + 4 * (z : Int)) = 21000 + 4 * (z : Int) := by rw [IntKind.wrap_u64]; omega
  have f3 : IntKind.u64.wrap (16 * ((n : Int) - (z : Int))) = 16 * ((n : Int) - (z : Int)) := by rw [IntKind.wrap_u64]; omega
  have f4 : IntKind.u64.wrap (21000 + 4 * (z : Int) + 16 * ((n : Int) - (z : Int))) = 21000 + 4 * (z : Int) + 16 * ((n : Int) - (z : Int)) := by rw [IntKind.wrap_u64]; omega
  have n0 : (en : Int) < 10000000 := by omega
  clear hM hn zl hun hen ee ek
  go_enter Tryd.func11, Tryd.ntmps11
  refine wp_seq_k fun K0 h0 => ?_
  have H0 : Hid _ := h0
  clear h0
  go_wp2
  refine H0.out _ _ ?_
  clear H0 K0
  refine wp_world (fun W => Below w.heap.size w W ∧ W.rangeAt w.heap.size 0 M ∧ W.cell? ⟨w.heap.size, 41, none⟩ = some (.slice t.Da n t.Dc)) ⟨(Below.refl _ _).alloc (Nat.le_refl _) _, fun j v hv => by rw [Nat.zero_add, World.cell?_alloc_mark]; simpa using hv, by rw [World.cell?_alloc_mark]; simpa using hm.out.2.1⟩ ?_
  rintro W ⟨B, rM, cD⟩
  refine wp_seq_k fun K1 h1 => ?_
  have H1 : Hid _ := h1
  clear h1
  go_wp2_with first
    | (refine wpList_load_midT (by rfl) 32 _ rfl w.heap.size 0 rfl M _ rM Tryd.underlying32 rfl sz ?_)
    | (go_at_call 29; refine (DR.out _ B).mono ?_; rintro e w2 ⟨rfl, hb⟩; replace B := B.trans (hb.mono B.size); replace rM : w2.rangeAt w.heap.size 0 M := (fun j v hv => cell_keep hb (rM j v hv)); replace cD := cell_keep hb cD; clear hb)
  refine H1.out _ _ ?_
  clear H1 K1
  refine wp_seq_k fun K2 h2 => ?_
  have H2 : Hid _ := h2
  clear h2
  go_wp2
  refine H2.out _ _ ?_
  clear H2 K2
  refine wp_seq_k fun K3 h3 => ?_
  have H3 : Hid _ := h3
  clear h3
  go_wp2_with first
    | (go_at_call 30; refine (ZE.out _ B).mono ?_; rintro e w3 ⟨rfl, hb⟩; replace B := B.trans (hb.mono B.size); replace rM : w3.rangeAt w.heap.size 0 M := (fun j v hv => cell_keep hb (rM j v hv)); clear hb cD)
  refine H3.out _ _ ?_
  clear H3 K3
  have c16 : w3.cell? ⟨w.heap.size, 16, none⟩ = some (.bool cr) := by simpa using rM 16 _ hm.out.1
  have c42 : w3.cell? ⟨w.heap.size, 42, none⟩ = some (.slice t.Ea en t.Ec) := by simpa using rM 42 _ hm.out.2.2.1
  have c48 : w3.cell? ⟨w.heap.size, 48, none⟩ = some (.slice t.Ua un t.Uc) := by simpa using rM 48 _ hm.out.2.2.2
  refine wp_seq_k fun K4 h4 => ?_
  have H4 : Hid _ := h4
  clear h4
  go_wp2
  refine H4.out _ _ ?_
  clear H4 K4
  cases cr
  · refine wp_seq_k fun K5 h5 => ?_
    have H5 : Hid _ := h5
    clear h5
    go_wp2
    refine H5.out _ _ ?_
    clear H5 K5
    obtain ⟨G, hG⟩ : ∃ G : Int, G = 21000 + 4 * (z : Int) + 16 * ((n : Int) - (z : Int)) := ⟨_, rfl⟩
    have HG : Hid (G = 21000 + 4 * (z : Int) + 16 * ((n : Int) - (z : Int))) := hG
    have G0 : Hid (0 ≤ G ∧ G ≤ 200000000000) := (show _ ∧ _ by have := KN.out; omega)
    rw [← hG]
    clear hG f1 f2 f3 f4 
    refine wp_seq_k fun K6 h6 => ?_
    have H6 : Hid _ := h6
    clear h6
    have MK : Hid (∀ W, Below w3.heap.size w3 W → W.cell? ⟨w.heap.size, 42, none⟩ = some (.slice t.Ea en t.Ec) ∧ W.cell? ⟨w.heap.size, 48, none⟩ = some (.slice t.Ua un t.Uc) ∧ EsG W t.Ea t.Eb t.Eo t.Ec t.El ∧ Below w.heap.size w W) := fun W BW => ⟨cell_keep BW c42, cell_keep BW c48, GE.out W (B.trans (BW.mono B.size)), B.trans (BW.mono B.size)⟩
    clear c42 c48 c16 rM B ZE DR sz
    go_wp2_with fail
    go_loopg [7, 8] en (fun k gv iv wr => ∃ i : Nat, k = en - i ∧ i ≤ en ∧ gv = .int .u64 (G + (2400 * (i : Int) + 1900 * (keyE t.El i : Nat))) ∧ iv = .int .i64 (i : Int) ∧ Below w3.heap.size w3 wr)
    case atStart => exact ⟨0, rfl, Nat.zero_le _, by simp [keyE], rfl, Below.refl _ _⟩
    case round =>
      obtain ⟨i, hk, hi, rfl, rfl, B⟩ := hrel
      have HK : Hid (gk = en - i) := hk
      clear hk
      have c42 := (MK.out _ B).1
      by_cases h8 : i = en
      · subst h8
        clear HK
        have ek := EK.out
        rw [ek]
        clear ek hi
        go_wp2
        refine H6.out _ _ ?_
        clear H6
        have c48 := (MK.out _ B).2.1
        clear c42 n0
        have g1 : IntKind.u64.wrap (un : Int) = un := by have := KN.out; rw [IntKind.wrap_u64]; omega
        have g2 : IntKind.u64.wrap (25000 * (un : Int)) = 25000 * (un : Int) := by have := KN.out; rw [IntKind.wrap_u64]; omega
        have g3 : IntKind.u64.wrap (G + (2400 * (i : Int) + 1900 * (kn : Int)) + 25000 * (un : Int)) = G + (2400 * (i : Int) + 1900 * (kn : Int)) + 25000 * (un : Int) := by have := KN.out; have := G0.out; rw [IntKind.wrap_u64]; omega
        go_wp2
        simp [bodyPost, results, Tryd.results11, go_sem]
        first
          | exact (MK.out _ B).2.2.2
          | exact ⟨by rw [HG.out]; omega, (MK.out _ B).2.2.2⟩
      · have hlt : i < en := by omega
        have hlt' : (i : Int) < (en : Int) := by omega
        have g := (MK.out _ B).2.2.1
        have ea : t.Ea = some ⟨t.Eb, t.Eo, none⟩ := by
          rcases g.2.1 with e | e
          · have := EL.out; rw [e] at this; simp at this; omega
          · exact e
        rw [ea] at c42
        have q := g.2.2 i (by rw [EL.out]; exact hlt)
        have c20 : wr.cell? ⟨t.Eb, t.Eo + i * 21 + 20, none⟩ = some (.slice (t.El.getD i zEn).a (t.El.getD i zEn).ks.length (t.El.getD i zEn).c) := by
          refine q.2 20 _ ?_
          rw [enC, List.getElem?_append_right (by rw [hC_len, q.1.1.1]; omega), hC_len, q.1.1.1]; rfl
        have kb := KB.out i hlt
        have ke := KE.out i (by omega)
        have NX : Hid (keyE t.El (i + 1) = keyE t.El i + (t.El.getD i zEn).ks.length) := rfl
        clear g q h8 hi ea
        generalize keyE t.El i = s at *
        generalize (t.El.getD i zEn).ks.length = n9 at *
        generalize (t.El.getD i zEn).a = a9 at *
        generalize (t.El.getD i zEn).c = c9 at *
        have g1 : IntKind.u64.wrap (G + (2400 * (i : Int) + 1900 * (s : Int)) + 2400) = G + (2400 * (i : Int) + 1900 * (s : Int)) + 2400 := by have := KN.out; have := G0.out; rw [IntKind.wrap_u64]; omega
        have g2 : IntKind.u64.wrap (n9 : Int) = n9 := by rw [IntKind.wrap_u64]; omega
        have g3 : IntKind.u64.wrap (1900 * (n9 : Int)) = 1900 * (n9 : Int) := by rw [IntKind.wrap_u64]; omega
        have g4 : IntKind.u64.wrap (G + (2400 * (i : Int) + 1900 * (s : Int)) + 2400 + 1900 * (n9 : Int)) = G + (2400 * (i : Int) + 1900 * (s : Int)) + 2400 + 1900 * (n9 : Int) := by have := KN.out; have := G0.out; rw [IntKind.wrap_u64]; omega
        have KB9 : Hid (n9 < 10000000 ∧ s ≤ i * 10000000) := ⟨kb, ke⟩
        clear kb ke
        go_wp2
        go_roundg (en - (i + 1))
        case measure => have := HK.out; omega
        case rel => exact ⟨i + 1, rfl, hlt, by rw [NX.out]; go_num, by go_num, B⟩
  · refine wp_seq_k fun K5 h5 => ?_
    have H5 : Hid _ := h5
    clear h5
    have n1 : (n : Int) < 1000000000 := by have := KN.out; omega
    have f5 : IntKind.u64.wrap (21000 + 4 * (z : Int) + 16 * ((n : Int) - (z : Int)) + 32000) = 21000 + 4 * (z : Int) + 16 * ((n : Int) - (z : Int)) + 32000 := by have := KN.out; rw [IntKind.wrap_u64]; omega
    have f6 : (z : Int) + ((n : Int) - (z : Int)) = n := by omega
    have f7 : IntKind.u64.wrap (n : Int) = n := by have := KN.out; rw [IntKind.wrap_u64]; omega
    have f8 : IntKind.u64.wrap ((n : Int) + 31) = (n : Int) + 31 := by have := KN.out; rw [IntKind.wrap_u64]; omega
    have f9 : IntKind.u64.wrap (2 * (((n : Int) + 31) / 32)) = 2 * (((n : Int) + 31) / 32) := by have := KN.out; rw [IntKind.wrap_u64]; omega
    have f10 : IntKind.u64.wrap (21000 + 4 * (z : Int) + 16 * ((n : Int) - (z : Int)) + 32000 + 2 * (((n : Int) + 31) / 32)) = 21000 + 4 * (z : Int) + 16 * ((n : Int) - (z : Int)) + 32000 + 2 * (((n : Int) + 31) / 32) := by have := KN.out; rw [IntKind.wrap_u64]; omega
    have f11 : IntKind.u64.wrap ((z : Int) + ((n : Int) - (z : Int))) = n := by have := KN.out; rw [IntKind.wrap_u64]; omega
    go_wp2
    refine H5.out _ _ ?_
    clear H5 K5
    obtain ⟨G, hG⟩ : ∃ G : Int, G = 21000 + 4 * (z : Int) + 16 * ((n : Int) - (z : Int)) + 32000 + 2 * (((n : Int) + 31) / 32) := ⟨_, rfl⟩
    have HG : Hid (G = 21000 + 4 * (z : Int) + 16 * ((n : Int) - (z : Int)) + 32000 + 2 * (((n : Int) + 31) / 32)) := hG
    have G0 : Hid (0 ≤ G ∧ G ≤ 200000000000) := (show _ ∧ _ by have := KN.out; omega)
    rw [← hG]
    clear hG n1 f1 f2 f3 f4 f5 f6 f7 f8 f9 f10 f11
    refine wp_seq_k fun K6 h6 => ?_
    have H6 : Hid _ := h6
    clear h6
    have MK : Hid (∀ W, Below w3.heap.size w3 W → W.cell? ⟨w.heap.size, 42, none⟩ = some (.slice t.Ea en t.Ec) ∧ W.cell? ⟨w.heap.size, 48, none⟩ = some (.slice t.Ua un t.Uc) ∧ EsG W t.Ea t.Eb t.Eo t.Ec t.El ∧ Below w.heap.size w W) := fun W BW => ⟨cell_keep BW c42, cell_keep BW c48, GE.out W (B.trans (BW.mono B.size)), B.trans (BW.mono B.size)⟩
    clear c42 c48 c16 rM B ZE DR sz
    go_wp2_with fail
    go_loopg [7, 8] en (fun k gv iv wr => ∃ i : Nat, k = en - i ∧ i ≤ en ∧ gv = .int .u64 (G + (2400 * (i : Int) + 1900 * (keyE t.El i : Nat))) ∧ iv = .int .i64 (i : Int) ∧ Below w3.heap.size w3 wr)
    case atStart => exact ⟨0, rfl, Nat.zero_le _, by simp [keyE], rfl, Below.refl _ _⟩
    case round =>
      obtain ⟨i, hk, hi, rfl, rfl, B⟩ := hrel
      have HK : Hid (gk = en - i) := hk
      clear hk
      have c42 := (MK.out _ B).1
      by_cases h8 : i = en
      · subst h8
        clear HK
        have ek := EK.out
        rw [ek]
        clear ek hi
        go_wp2
        refine H6.out _ _ ?_
        clear H6
        have c48 := (MK.out _ B).2.1
        clear c42 n0
        have g1 : IntKind.u64.wrap (un : Int) = un := by have := KN.out; rw [IntKind.wrap_u64]; omega
        have g2 : IntKind.u64.wrap (25000 * (un : Int)) = 25000 * (un : Int) := by have := KN.out; rw [IntKind.wrap_u64]; omega
        have g3 : IntKind.u64.wrap (G + (2400 * (i : Int) + 1900 * (kn : Int)) + 25000 * (un : Int)) = G + (2400 * (i : Int) + 1900 * (kn : Int)) + 25000 * (un : Int) := by have := KN.out; have := G0.out; rw [IntKind.wrap_u64]; omega
        go_wp2
        simp [bodyPost, results, Tryd.results11, go_sem]
        first
          | exact (MK.out _ B).2.2.2
          | exact ⟨by rw [HG.out]; omega, (MK.out _ B).2.2.2⟩
      · have hlt : i < en := by omega
        have hlt' : (i : Int) < (en : Int) := by omega
        have g := (MK.out _ B).2.2.1
        have ea : t.Ea = some ⟨t.Eb, t.Eo, none⟩ := by
          rcases g.2.1 with e | e
          · have := EL.out; rw [e] at this; simp at this; omega
          · exact e
        rw [ea] at c42
        have q := g.2.2 i (by rw [EL.out]; exact hlt)
        have c20 : wr.cell? ⟨t.Eb, t.Eo + i * 21 + 20, none⟩ = some (.slice (t.El.getD i zEn).a (t.El.getD i zEn).ks.length (t.El.getD i zEn).c) := by
          refine q.2 20 _ ?_
          rw [enC, List.getElem?_append_right (by rw [hC_len, q.1.1.1]; omega), hC_len, q.1.1.1]; rfl
        have kb := KB.out i hlt
        have ke := KE.out i (by omega)
        have NX : Hid (keyE t.El (i + 1) = keyE t.El i + (t.El.getD i zEn).ks.length) := rfl
        clear g q h8 hi ea
        generalize keyE t.El i = s at *
        generalize (t.El.getD i zEn).ks.length = n9 at *
        generalize (t.El.getD i zEn).a = a9 at *
        generalize (t.El.getD i zEn).c = c9 at *
        have g1 : IntKind.u64.wrap (G + (2400 * (i : Int) + 1900 * (s : Int)) + 2400) = G + (2400 * (i : Int) + 1900 * (s : Int)) + 2400 := by have := KN.out; have := G0.out; rw [IntKind.wrap_u64]; omega
        have g2 : IntKind.u64.wrap (n9 : Int) = n9 := by rw [IntKind.wrap_u64]; omega
        have g3 : IntKind.u64.wrap (1900 * (n9 : Int)) = 1900 * (n9 : Int) := by rw [IntKind.wrap_u64]; omega
        have g4 : IntKind.u64.wrap (G + (2400 * (i : Int) + 1900 * (s : Int)) + 2400 + 1900 * (n9 : Int)) = G + (2400 * (i : Int) + 1900 * (s : Int)) + 2400 + 1900 * (n9 : Int) := by have := KN.out; have := G0.out; rw [IntKind.wrap_u64]; omega
        have KB9 : Hid (n9 < 10000000 ∧ s ≤ i * 10000000) := ⟨kb, ke⟩
        clear kb ke
        go_wp2
        go_roundg (en - (i + 1))
        case measure => have := HK.out; omega
        case rel => exact ⟨i + 1, rfl, hlt, by rw [NX.out]; go_num, by go_num, B⟩
set_option maxRecDepth 100000 in
set_option maxHeartbeats 4000000 in
theorem rIntrinsic_any {t : Txv} (hd : Hid (BdG t)) (h2 : t.Hsl.length < 1000000000) (w : World) (hG : TxG w t) : Calls Tryd.prog 11 #[.agg (txC t).toArray] w fun e w' => e = .returned (.tuple #[.int .u64 (igV t), .int .i64 (dfN t)]) ∧ Below w.heap.size w w' := by
  have h20 := hG.to.1
  have hl := hd.out.1
  have hX := TxB.new (W := w) (ty := 32) h20
  have sz := size_tx h20
  have DR : Hid (∀ W, Below w.heap.size w W → Calls Tryd.prog 29 #[.agg (txC t).toArray] W fun e w' => e = .returned (.int .i64 (dfN t)) ∧ Below W.heap.size W w') := fun W B => rdraft_any W (hG.keep B) (hd.out.two h2).1 (hd.out.two h2).2
  by_cases c : dfN t = 0
  · have cl := fun j v (e : (w.alloc (.cells (txC t).toArray 32)).cell? ⟨w.heap.size, j, none⟩ = some v) => (show (txC t)[j]? = some v by rw [World.cell?_alloc_mark] at e; simpa using e)
    rw [c] at DR
    have := rintr_walk (t := t) (M := txC t) (z := zer t.Dl t.Dl.length) (n := t.Dl.length) (kn := keyE t.El t.El.length) (en := t.El.length) (un := t.Ul.length) (w := w) (cr := t.cr) hl (zer_le _ _) hd.out.2.2.2 hd.out.2.1 rfl hd.out.2.2.1 (fun i hi => keyE_bd hd.out.2.2.1 i hi) rfl (fun W B => hG.E.keep B) (fun W B => rzeros_any hl W (hG.D.keep B)) DR sz ⟨cl _ _ hX.cr, cl _ _ hX.D, cl _ _ hX.E, cl _ _ hX.U⟩
    rw [c, show igV t = 21000 + 4 * (zer t.Dl t.Dl.length : Int) + 16 * ((t.Dl.length : Int) - (zer t.Dl t.Dl.length : Int)) + (if t.cr = true then 32000 + 2 * (((t.Dl.length + 31) / 32 : Nat) : Int) else 0) + (2400 * (t.El.length : Int) + 1900 * (keyE t.El t.El.length : Int)) + 25000 * (t.Ul.length : Int) from by unfold igV igT gdT; rw [if_pos c]; omega]
    exact this
  · have ev : igV t = 0 := if_neg c
    rw [ev]
    have hM := hX.all
    have c1 : (dfN t != 0) = true := bne_iff_ne.2 c
    clear hX hd h2 hG h20 hl c ev
    generalize txC t = M at *
    generalize dfN t = q at *
    go_enter Tryd.func11, Tryd.ntmps11
    refine wp_seq_k fun K0 h0 => ?_
    have H0 : Hid _ := h0
    clear h0
    go_wp2
    refine H0.out _ _ ?_
    clear H0 K0
    refine wp_world (fun W => Below w.heap.size w W ∧ W.rangeAt w.heap.size 0 M) ⟨(Below.refl _ _).alloc (Nat.le_refl _) _, hM⟩ ?_
    clear hM
    rintro W ⟨B, rM⟩
    go_wp2_with first
      | (refine wpList_load_midT (by rfl) 32 _ rfl w.heap.size 0 rfl M _ rM Tryd.underlying32 rfl sz ?_)
      | (go_at_call 29; refine (DR.out _ B).mono ?_; rintro e w2 ⟨rfl, hb⟩; replace B := B.trans (hb.mono B.size); clear hb)
    simp [bodyPost, results, Tryd.results11, go_sem]
    exact B
end Go.Proofs.YtllfmlgnemkklaaDoor

import Derived.Test.YtncpjgpioajbeaaGreatDoorNzG
import Derived.Test.YtncpjgpioajbeaaGreatDoorFAppK
import Derived.Maps.AppendAt
/- Nonces: the document's candidates. -/
namespace Go.Proofs.YtncpjgpioajbeaaGreatDoor
open Go.RowKit Go.Sort

/-- Two lists of bytes that are gathered side by side, beside the bytes of key and digest. -/
structure TvZ (w W : World) (b0 g1 g2 : Nat) (L1 L2 : List (BitVec 8)) (vv kk : Value) (V K : List (BitVec 8)) : Prop where
  B : Below w.heap.size w W
  d : S.Hsh W g1 L1
  e : S.Hsh W g2 L2
  l1 : g1 < b0
  l2 : g2 < b0
  hi : b0 ≤ W.heap.size
  lw : w.heap.size ≤ b0
  v : S.Own b0 W vv V
  k : S.Own b0 W kk K
  vk : ∀ b, vv.ownBlock = some b → kk.ownBlock ≠ some b
theorem TvZ.push {w W W' : World} {b0 g1 g2 : Nat} {L1 L2 : List (BitVec 8)} {vv kk vv' : Value} {V K : List (BitVec 8)} {x : BitVec 8} {z : Obj} (t : TvZ w W b0 g1 g2 L1 L2 vv kk V K) (hown : W'.ownsRow b0 5 1 vv' (V.length + 1) (S.byts V ++ [.int .u8 (S.Y x)]))
    (hg : (W.alloc z).grownBy W' vv.ownBlock) (hblk : vv'.ownBlock = vv.ownBlock ∨ vv'.ownBlock = some (W.alloc z).heap.size) : TvZ w W' b0 g1 g2 L1 L2 vv' kk (V ++ [x]) K := by
  have ltv : ∀ b, vv.ownBlock = some b → b0 ≤ b ∧ b < W.heap.size := fun b hb => t.v.row.lt b hb
  have ltk : ∀ b, kk.ownBlock = some b → b0 ≤ b ∧ b < W.heap.size := fun b hb => t.k.row.lt b hb
  have sz : (W.alloc z).heap.size = W.heap.size + 1 := by simp
  have hB := t.B.alloc t.B.size z
  refine ⟨hB.grown hg (by have := t.B.size; omega) (fun k hk => by have := ltv k hk; have := t.lw; omega), (t.d.alloc z).sameH (hg.block g1 (by have := t.l1; have := t.hi; omega) (fun e => by have := ltv _ e.symm; have := t.l1; omega)), (t.e.alloc z).sameH (hg.block g2 (by have := t.l2; have := t.hi; omega) (fun e => by have := ltv _ e.symm; have := t.l2; omega)), t.l1, t.l2, by have := hg.size; have := t.hi; omega, t.lw, ?_, (t.k.allocH z).keptH hg (fun b hb e => t.vk b e hb), ?_⟩
  · rw [S.Own, List.length_append, ← S.byts_snoc]; exact hown
  · intro b hb e
    rcases hblk with h | h
    · exact t.vk b (by rw [← h]; exact hb) e
    · rw [h] at hb; have := Option.some.inj hb; have := ltk b e; omega
theorem TvZ.swap {w W : World} {b0 g1 g2 : Nat} {L1 L2 : List (BitVec 8)} {vv kk : Value} {V K : List (BitVec 8)} (t : TvZ w W b0 g1 g2 L1 L2 vv kk V K) : TvZ w W b0 g1 g2 L1 L2 kk vv K V :=
  ⟨t.B, t.d, t.e, t.l1, t.l2, t.hi, t.lw, t.k, t.v, fun b hb e => t.vk b e hb⟩
theorem rep_snoc (n : Nat) (x : BitVec 8) : List.replicate n x ++ [x] = List.replicate (n + 1) x := (List.replicate_succ' (n := n) (a := x)).symm
theorem prts_fourZ {W : World} {p q r s : S.Part} {v1 v2 v3 v4 : Value} {g : Nat} {ty : TypeId} (e : g = W.heap.size) (e1 : v1 = p.val) (e2 : v2 = q.val) (e3 : v3 = r.val) (e4 : v4 = s.val) (hp : p.ok W) (hq : q.ok W) (hr : r.ok W) (hs : s.ok W) : S.Prts (W.alloc (.cells #[v1, v2, v3, v4] ty)) g 0 [p, q, r, s] := by
  subst e; subst e1; subst e2; subst e3; subst e4
  intro i hi
  have i2 : i < 4 := by simpa using hi
  have B : ∀ o, Below W.heap.size W (W.alloc o) := fun o => (Below.refl _ _).alloc (Nat.le_refl _) o
  rcases (by omega : i = 0 ∨ i = 1 ∨ i = 2 ∨ i = 3) with rfl | rfl | rfl | rfl
  · exact ⟨by rw [Nat.zero_add, World.cell?_alloc_mark]; rfl, okZ hp (B _)⟩
  · exact ⟨by rw [Nat.zero_add, World.cell?_alloc_mark]; rfl, okZ hq (B _)⟩
  · exact ⟨by rw [Nat.zero_add, World.cell?_alloc_mark]; rfl, okZ hr (B _)⟩
  · exact ⟨by rw [Nat.zero_add, World.cell?_alloc_mark]; rfl, okZ hs (B _)⟩

/-- What holds while K and V are reckoned: the bytes of key and digest, K and V as slices. -/
structure CdZ (w W : World) (g1 g2 : Nat) (L1 L2 : List (BitVec 8)) (fk fv : Bool) (pk pv : S.Part) : Prop where
  B : Below w.heap.size w W
  d : S.Hsh W g1 L1
  e : S.Hsh W g2 L2
  k : pk.ok W
  v : pv.ok W
  kh : fk = true → S.Hsh W pk.b pk.X
  vh : fv = true → S.Hsh W pv.b pv.X
theorem CdZ.keep {w W W' : World} {g1 g2 : Nat} {L1 L2 : List (BitVec 8)} {fk fv : Bool} {pk pv : S.Part} (h : CdZ w W g1 g2 L1 L2 fk fv pk pv) (b : Below W.heap.size W W') : CdZ w W' g1 g2 L1 L2 fk fv pk pv := ⟨h.B.trans (b.mono h.B.size), h.d.keep b, h.e.keep b, okZ h.k b, okZ h.v b, fun e => (h.kh e).keep b, fun e => (h.vh e).keep b⟩
def ptZ (g : Nat) (X : List (BitVec 8)) : S.Part := ⟨some ⟨g, 0, none⟩, g, 0, 32, X⟩
theorem ptZ_ok {W : World} {g : Nat} {X : List (BitVec 8)} (h : S.Hsh W g X) : (ptZ g X).ok W := Hsh_part h (Nat.le_refl _)
theorem ptZ_val {g : Nat} {X : List (BitVec 8)} (h : X.length = 32) : (ptZ g X).val = .slice (some ⟨g, 0, none⟩) 32 32 := by show Value.slice (some ⟨g, 0, none⟩) X.length 32 = _; rw [h]
/-- A code of parts, under a key that is a part. -/
theorem code_part {pk : S.Part} {a : Option Addr} {bp op cp n : Nat} {PS : List S.Part} (hk : pk.X.length = 32) (hn : PS.length = n) (hs : (S.catX PS).length < 1000000) (n8 : n ≤ 8) (ha : PS = [] ∨ a = some ⟨bp, op, none⟩) (w : World) (h : pk.ok w) (hP : S.Prts w bp op PS) :
    Calls Tryz.prog 97 #[.slice pk.a 32 pk.c, .slice a n cp] w fun e w' => ∃ g, e = .returned (.slice (some ⟨g, 0, none⟩) 32 32) ∧ S.Hsh w' g (S.hmacL pk.X (S.catX PS)) ∧ w.heap.size ≤ g ∧ Below w.heap.size w w' :=
  rcode_any hk hn (by omega) h.2.1 h.1 (by omega) (by omega) ha w h.2.2 hP

/-- What holds while candidates are gathered. -/
structure LpZ (w W : World) (gk gv : Nat) (lv : Value) (K V : List (BitVec 8)) (L : List Int) : Prop where
  B : Below w.heap.size w W
  k : S.Hsh W gk K
  v : S.Hsh W gv V
  l : OwnU w.heap.size W lv L
  nk : lv.ownBlock ≠ some gk
  nv : lv.ownBlock ≠ some gv
theorem OwnU.keepZ {B : Nat} {W W' : World} {v : Value} {L : List Int} (h : OwnU B W v L) (hb : Below W.heap.size W W') : OwnU B W' v L := h.keep hb
theorem LpZ.keep {w W W' : World} {gk gv : Nat} {lv : Value} {K V : List (BitVec 8)} {L : List Int} (h : LpZ w W gk gv lv K V L) (b : Below W.heap.size W W') : LpZ w W' gk gv lv K V L := ⟨h.B.trans (b.mono h.B.size), h.k.keep b, h.v.keep b, h.l.keepZ b, h.nk, h.nv⟩
theorem LpZ.newk {w W W' : World} {gk gv g : Nat} {lv : Value} {K V X : List (BitVec 8)} {L : List Int} (h : LpZ w W gk gv lv K V L) (b : Below W.heap.size W W') (hx : S.Hsh W' g X) (ge : W.heap.size ≤ g) : LpZ w W' g gv lv X V L := by
  have t := h.keep b
  exact ⟨t.B, hx, t.v, t.l, fun e => by have := (h.l.row.lt g e).2; omega, t.nv⟩
theorem LpZ.newv {w W W' : World} {gk gv g : Nat} {lv : Value} {K V X : List (BitVec 8)} {L : List Int} (h : LpZ w W gk gv lv K V L) (b : Below W.heap.size W W') (hx : S.Hsh W' g X) (ge : W.heap.size ≤ g) : LpZ w W' gk g lv K X L := by
  have t := h.keep b
  exact ⟨t.B, t.k, hx, t.l, t.nk, fun e => by have := (h.l.row.lt g e).2; omega⟩
theorem LpZ.push {w W W' : World} {gk gv : Nat} {lv lv' : Value} {K V : List (BitVec 8)} {L : List Int} {y : Int} (h : LpZ w W gk gv lv K V L) (hown : W'.ownsRow w.heap.size 24 4 lv' (L.length + 1) (numsV L ++ [.int .u64 (l0 y), .int .u64 (l1 y), .int .u64 (l2 y), .int .u64 (l3 y)])) (hg : W.grownBy W' lv.ownBlock) (hblk : lv'.ownBlock = lv.ownBlock ∨ lv'.ownBlock = some W.heap.size) : LpZ w W' gk gv lv' K V (L ++ [y]) := by
  have lk := h.k.lt
  have lv := h.v.lt
  refine ⟨h.B.grown hg h.B.size (fun k hk => (h.l.row.lt k hk).1), h.k.sameH (hg.block gk lk (fun e => h.nk e.symm)), h.v.sameH (hg.block gv lv (fun e => h.nv e.symm)), by rw [OwnU, List.length_append, ← numsV_snoc]; exact hown, fun e => ?_, fun e => ?_⟩
  · rcases hblk with q | q
    · exact h.nk (q ▸ e)
    · rw [q] at e; have := Option.some.inj e; omega
  · rcases hblk with q | q
    · exact h.nv (q ▸ e)
    · rw [q] at e; have := Option.some.inj e; omega
theorem rgetZ {W : World} {g : Nat} {V : List (BitVec 8)} (h : S.Hsh W g V) : Calls Tryz.prog 98 #[.slice (some ⟨g, 0, none⟩) 32 32] W fun e w' => e = .returned (.tuple #[.agg #[.int .u64 (l0 (sufN (ivZ V) 32)), .int .u64 (l1 (sufN (ivZ V) 32)), .int .u64 (l2 (sufN (ivZ V) 32)), .int .u64 (l3 (sufN (ivZ V) 32))], .int .i64 0]) ∧ Below W.heap.size W w' := by
  have h32 : (ivZ V).length = 32 := by rw [ivZ_len]; exact h.1
  have := rget_some (ob := 0) (cb := 32) (ivZ_byts V) (by omega) W (byo_iv h)
  rw [h32] at this
  exact this
theorem range_snocZ (C : Nat → Int) (i : Nat) : (List.range i).map C ++ [C i] = (List.range (i + 1)).map C := by rw [List.range_succ, List.map_append]; rfl
theorem two_partsZ {W : World} {g gv : Nat} {V : List (BitVec 8)} {ty ty2 : TypeId} (e : g = W.heap.size + 1) (h : S.Hsh W gv V) : S.Prts ((W.alloc (.cells #[.int .u8 0] ty)).alloc (.cells #[.slice (some ⟨gv, 0, none⟩) 32 32, .slice (some ⟨W.heap.size, 0, none⟩) 1 1] ty2)) g 0 [ptZ gv V, ⟨some ⟨W.heap.size, 0, none⟩, W.heap.size, 0, 1, [0]⟩] :=
  prts_twoZ (by rw [e]; simp) (ptZ_val h.1).symm rfl (okZ (ptZ_ok h) ((Below.refl _ _).alloc (Nat.le_refl _) _)) (byte_partZ (mb := 0) S.Y_zero)

set_option maxRecDepth 100000 in
set_option maxHeartbeats 8000000 in
theorem rcand_any {key d : Int} {n : Nat} {M : List Value} (hl : M.length = 32) (hn : n ≤ 256) (ND : Hid (∀ w, Calls Tryz.prog 96 #[.agg M.toArray] w fun e w' => e = .returned (.agg #[.int .u64 (l0 d), .int .u64 (l1 d), .int .u64 (l2 d), .int .u64 (l3 d)]) ∧ Below w.heap.size w w')) (w : World) :
    Calls Tryz.prog 66 #[.agg #[.int .u64 (l0 key), .int .u64 (l1 key), .int .u64 (l2 key), .int .u64 (l3 key)], .agg M.toArray, .int .i64 (n : Int)] w fun e w' => ∃ v, e = .returned v ∧ OwnU w.heap.size w' v ((List.range n).map (cndZ (stZ key d))) ∧ Below w.heap.size w w' := by
  have HL : Hid (M.length = 32 ∧ n ≤ 256) := ⟨hl, hn⟩
  have n6 : (n : Int) ≤ 256 := by omega
  have il : (Tryz.prog.info? 26).map (·.size) = some M.length := by rw [hl]; kernel_rfl
  obtain ⟨i0, hi, hz0, hz1, hz2⟩ := info_parts S.info_byte
  have HZ : Hid (Tryz.prog.info? 5 = some i0 ∧ i0.zero = some (.int .u8 0) ∧ i0.size = 1 ∧ i0.bytes = 1) := ⟨hi, hz0, hz1, hz2⟩
  clear hi hz0 hz1 hz2
  obtain ⟨i1, hi, hz0, hz1, hz2⟩ := info_parts info_num
  have HY : Hid (Tryz.prog.info? 24 = some i1 ∧ i1.zero = some (.agg #[.int .u64 0, .int .u64 0, .int .u64 0, .int .u64 0]) ∧ i1.size = 4 ∧ i1.bytes = 32) := ⟨hi, hz0, hz1, hz2⟩
  clear hi hz0 hz1 hz2 hl hn
  obtain ⟨L1, eL1⟩ : ∃ L, L = pbZ key := ⟨_, rfl⟩
  obtain ⟨L2, eL2⟩ : ∃ L, L = pbZ d := ⟨_, rfl⟩
  have LL : Hid (L1 = pbZ key ∧ L2 = pbZ d ∧ L1.length = 32 ∧ L2.length = 32) := ⟨eL1, eL2, by rw [eL1, pbZ_len], by rw [eL2, pbZ_len]⟩
  clear eL1 eL2
  go_enter Tryz.func66, Tryz.ntmps66
  go_wp2_with fail
  have BA : ∀ (V : World) o, Below V.heap.size V (V.alloc o) := fun V o => (Below.refl _ _).alloc (Nat.le_refl _) o
  refine calls_world (fun W => Below w.heap.size w W ∧ W.rangeAt (w.heap.size + 1) 0 M) ⟨((Below.refl _ _).alloc (Nat.le_refl _) _).alloc (by simp) _, by have h := range_newZ (W := w.alloc (.cells #[.int .u64 (l0 key), .int .u64 (l1 key), .int .u64 (l2 key), .int .u64 (l3 key)] 24)) (cs := M) (t := 26); simpa using h⟩ ?_
  clear BA
  rintro W0 ⟨B0, hr0⟩
  refine (rb32_any (x := key) W0).mono ?_
  rw [← LL.out.1]
  rintro e W1 ⟨g1, rfl, hd, ge1, hb⟩
  have rg := rangeZ hr0 hb
  have B1 := B0.trans (hb.mono B0.size)
  have H1 : Hid (Below w.heap.size w W1 ∧ S.Hsh W1 g1 L1) := ⟨B1, hd⟩
  clear hb hr0 B0 ge1 hd B1
  clear W0
  go_wp2_with (refine wpList_load_mid rfl 26 _ rfl (w.heap.size + 1) 0 rfl M _ rg Tryz.underlying26 rfl il ?_)
  refine (ND.out _).mono ?_
  rintro e W2 ⟨rfl, hb⟩
  have H2 : Hid (Below w.heap.size w W2 ∧ S.Hsh W2 g1 L1) := ⟨H1.out.1.trans (hb.mono H1.out.1.size), H1.out.2.keep hb⟩
  clear hb H1 rg il
  clear W1
  go_wp2_with fail
  refine (rb32_any (x := d) W2).mono ?_
  rw [← LL.out.2.1]
  rintro e W3 ⟨g2, rfl, he, ge2, hb⟩
  have H3 : Hid (TvZ w W3 W3.heap.size g1 g2 L1 L2 (.slice none 0 0) (.slice none 0 0) [] []) := by
    have h1 := H2.out.2.keep hb
    have h2 := H2.out.1.trans (hb.mono H2.out.1.size)
    exact ⟨h2, h1, he, h1.lt, he.lt, Nat.le_refl _, h2.size, S.own_nil, S.own_nil, fun b e => nomatch e⟩
  clear hb he ge2 H2
  clear W2
  go_wp2_with fail
  obtain ⟨b0, eb0⟩ : ∃ b, b = W3.heap.size := ⟨_, rfl⟩
  rw [← eb0] at H3
  clear eb0
  go_loopg [9, 10, 11] 32 (fun q vv kk iv wr => ∃ i : Nat, q = 32 - i ∧ i ≤ 32 ∧ iv = .int .i64 (i : Int) ∧ TvZ w wr b0 g1 g2 L1 L2 vv kk (List.replicate i 1) (List.replicate i 0))
  case atStart => exact ⟨0, rfl, Nat.zero_le _, rfl, H3.out⟩
  case round =>
    clear H3
    obtain ⟨i, hk, hi, rfl, hT⟩ := hrel
    have HK : Hid (gk = 32 - i) := hk
    have HT : Hid (TvZ w wr b0 g1 g2 L1 L2 u9 u10 (List.replicate i 1) (List.replicate i 0)) := hT
    clear hk hT
    by_cases h8 : i = 32
    · subst h8
      obtain ⟨av, gv0, cv, rfl, zv, yv, lv⟩ := HT.out.v.liesH
      obtain ⟨ak, gk0, ck, rfl, zk, yk, lk⟩ := HT.out.k.liesH
      have BA : Hid (∀ (V : World) o, Below V.heap.size V (V.alloc o)) := fun V o => (Below.refl _ _).alloc (Nat.le_refl _) o
      have HC : Hid (CdZ w wr g1 g2 L1 L2 false false (⟨ak, gk0, 0, ck, List.replicate 32 0⟩ : S.Part) (⟨av, gv0, 0, cv, List.replicate 32 1⟩ : S.Part)) := ⟨HT.out.B, HT.out.d, HT.out.e, ⟨zk, lk, yk⟩, ⟨zv, lv, yv⟩, (fun e => nomatch e), (fun e => nomatch e)⟩
      rw [List.length_replicate, List.length_replicate]
      clear zv yv lv zk yk lk HT HK HZ
      go_wp2_with fail
      refine calls_world (fun U => CdZ w U g1 g2 L1 L2 false false (⟨ak, gk0, 0, ck, List.replicate 32 0⟩ : S.Part) (⟨av, gv0, 0, cv, List.replicate 32 1⟩ : S.Part) ∧ S.Prts U (wr.heap.size + 1) 0 [(⟨av, gv0, 0, cv, List.replicate 32 1⟩ : S.Part), ⟨some ⟨wr.heap.size, 0, none⟩, wr.heap.size, 0, 1, [0]⟩, ⟨some ⟨g1, 0, none⟩, g1, 0, 32, L1⟩, ⟨some ⟨g2, 0, none⟩, g2, 0, 32, L2⟩]) ⟨(HC.out.keep (BA.out _ _)).keep (BA.out _ _), prts_fourZ (by simp) rfl rfl (by rw [S.Part.val, LL.out.2.2.1]) (by rw [S.Part.val, LL.out.2.2.2]) (okZ HC.out.v (BA.out _ _)) (byte_partZ (mb := 0) (by rw [S.Y_eq]; rfl)) (okZ (Hsh_part HC.out.d (Nat.le_refl _)) (BA.out _ _)) (okZ (Hsh_part HC.out.e (Nat.le_refl _)) (BA.out _ _))⟩ ?_
      rintro U ⟨HU, hP⟩
      have cx : S.catX [(⟨av, gv0, 0, cv, List.replicate 32 1⟩ : S.Part), ⟨some ⟨wr.heap.size, 0, none⟩, wr.heap.size, 0, 1, [0]⟩, ⟨some ⟨g1, 0, none⟩, g1, 0, 32, L1⟩, ⟨some ⟨g2, 0, none⟩, g2, 0, 32, L2⟩] = (⟨List.replicate 32 0, List.replicate 32 1⟩ : KvZ).v ++ ([0] ++ (L1 ++ L2)) := by simp [S.catX]
      have hc := code_part (pk := (⟨ak, gk0, 0, ck, List.replicate 32 0⟩ : S.Part)) (a := some ⟨wr.heap.size + 1, 0, none⟩) (bp := wr.heap.size + 1) (op := 0) (cp := 4) (n := 4) (PS := [(⟨av, gv0, 0, cv, List.replicate 32 1⟩ : S.Part), ⟨some ⟨wr.heap.size, 0, none⟩, wr.heap.size, 0, 1, [0]⟩, ⟨some ⟨g1, 0, none⟩, g1, 0, 32, L1⟩, ⟨some ⟨g2, 0, none⟩, g2, 0, 32, L2⟩]) (by show (List.replicate 32 (0 : BitVec 8)).length = 32; rfl) rfl (by rw [cx]; have := LL.out; have h32 := (show (List.replicate 32 (1 : BitVec 8)).length = 32 from rfl); simp only [List.length_append, List.length_cons, List.length_nil]; omega) (by decide) (.inr rfl) U HU.k hP
      rw [cx] at hc
      refine hc.mono ?_
      clear hc cx hP
      rintro e W4 ⟨g3, rfl, hk, hge, hb⟩
      have HC' : Hid (CdZ w W4 g1 g2 L1 L2 true false (ptZ g3 (stirZ (⟨List.replicate 32 0, List.replicate 32 1⟩ : KvZ) ([0] ++ (L1 ++ L2))).k) (⟨av, gv0, 0, cv, List.replicate 32 1⟩ : S.Part)) := by
        have h := HU.keep hb
        exact ⟨h.B, h.d, h.e, ptZ_ok hk, h.v, fun _ => hk, h.vh⟩
      clear hk hge hb HU HC
      clear U
      go_wp2_with fail
      refine calls_world (fun U => CdZ w U g1 g2 L1 L2 true false (ptZ g3 (stirZ (⟨List.replicate 32 0, List.replicate 32 1⟩ : KvZ) ([0] ++ (L1 ++ L2))).k) (⟨av, gv0, 0, cv, List.replicate 32 1⟩ : S.Part) ∧ S.Prts U W4.heap.size 0 [(⟨av, gv0, 0, cv, List.replicate 32 1⟩ : S.Part)]) ⟨HC'.out.keep (BA.out _ _), prts_oneZ rfl rfl HC'.out.v⟩ ?_
      rintro U ⟨HU, hP⟩
      have cx : S.catX [(⟨av, gv0, 0, cv, List.replicate 32 1⟩ : S.Part)] = (⟨List.replicate 32 0, List.replicate 32 1⟩ : KvZ).v := by simp [S.catX]
      have hc := code_part (pk := (ptZ g3 (stirZ (⟨List.replicate 32 0, List.replicate 32 1⟩ : KvZ) ([0] ++ (L1 ++ L2))).k)) (a := some ⟨W4.heap.size, 0, none⟩) (bp := W4.heap.size) (op := 0) (cp := 1) (n := 1) (PS := [(⟨av, gv0, 0, cv, List.replicate 32 1⟩ : S.Part)]) (stirZ_ok _ _).1 rfl (by rw [cx]; have h32 := (show (⟨List.replicate 32 0, List.replicate 32 1⟩ : KvZ).v.length = 32 from rfl); omega) (by decide) (.inr rfl) U HU.k hP
      rw [cx] at hc
      refine hc.mono ?_
      clear hc cx hP
      rintro e W5 ⟨g4, rfl, hk, hge, hb⟩
      have HC : Hid (CdZ w W5 g1 g2 L1 L2 true true (ptZ g3 (stirZ (⟨List.replicate 32 0, List.replicate 32 1⟩ : KvZ) ([0] ++ (L1 ++ L2))).k) (ptZ g4 (stirZ (⟨List.replicate 32 0, List.replicate 32 1⟩ : KvZ) ([0] ++ (L1 ++ L2))).v)) := by
        have h := HU.keep hb
        exact ⟨h.B, h.d, h.e, h.k, ptZ_ok hk, h.kh, fun _ => hk⟩
      clear hk hge hb HU HC'
      clear U
      go_wp2_with fail
      refine calls_world (fun U => CdZ w U g1 g2 L1 L2 true true (ptZ g3 (stirZ (⟨List.replicate 32 0, List.replicate 32 1⟩ : KvZ) ([0] ++ (L1 ++ L2))).k) (ptZ g4 (stirZ (⟨List.replicate 32 0, List.replicate 32 1⟩ : KvZ) ([0] ++ (L1 ++ L2))).v) ∧ S.Prts U (W5.heap.size + 1) 0 [(ptZ g4 (stirZ (⟨List.replicate 32 0, List.replicate 32 1⟩ : KvZ) ([0] ++ (L1 ++ L2))).v), ⟨some ⟨W5.heap.size, 0, none⟩, W5.heap.size, 0, 1, [1]⟩, ⟨some ⟨g1, 0, none⟩, g1, 0, 32, L1⟩, ⟨some ⟨g2, 0, none⟩, g2, 0, 32, L2⟩]) ⟨(HC.out.keep (BA.out _ _)).keep (BA.out _ _), prts_fourZ (by simp) (ptZ_val (stirZ_ok _ _).2).symm rfl (by rw [S.Part.val, LL.out.2.2.1]) (by rw [S.Part.val, LL.out.2.2.2]) (okZ HC.out.v (BA.out _ _)) (byte_partZ (mb := 1) (by rw [S.Y_eq]; rfl)) (okZ (Hsh_part HC.out.d (Nat.le_refl _)) (BA.out _ _)) (okZ (Hsh_part HC.out.e (Nat.le_refl _)) (BA.out _ _))⟩ ?_
      rintro U ⟨HU, hP⟩
      have cx : S.catX [(ptZ g4 (stirZ (⟨List.replicate 32 0, List.replicate 32 1⟩ : KvZ) ([0] ++ (L1 ++ L2))).v), ⟨some ⟨W5.heap.size, 0, none⟩, W5.heap.size, 0, 1, [1]⟩, ⟨some ⟨g1, 0, none⟩, g1, 0, 32, L1⟩, ⟨some ⟨g2, 0, none⟩, g2, 0, 32, L2⟩] = (stirZ (⟨List.replicate 32 0, List.replicate 32 1⟩ : KvZ) ([0] ++ (L1 ++ L2))).v ++ ([1] ++ (L1 ++ L2)) := by simp [S.catX, ptZ]
      have hc := code_part (pk := (ptZ g3 (stirZ (⟨List.replicate 32 0, List.replicate 32 1⟩ : KvZ) ([0] ++ (L1 ++ L2))).k)) (a := some ⟨W5.heap.size + 1, 0, none⟩) (bp := W5.heap.size + 1) (op := 0) (cp := 4) (n := 4) (PS := [(ptZ g4 (stirZ (⟨List.replicate 32 0, List.replicate 32 1⟩ : KvZ) ([0] ++ (L1 ++ L2))).v), ⟨some ⟨W5.heap.size, 0, none⟩, W5.heap.size, 0, 1, [1]⟩, ⟨some ⟨g1, 0, none⟩, g1, 0, 32, L1⟩, ⟨some ⟨g2, 0, none⟩, g2, 0, 32, L2⟩]) (stirZ_ok _ _).1 rfl (by rw [cx]; have := LL.out; have h32 := (show (stirZ (⟨List.replicate 32 0, List.replicate 32 1⟩ : KvZ) ([0] ++ (L1 ++ L2))).v.length = 32 from (stirZ_ok _ _).2); simp only [List.length_append, List.length_cons, List.length_nil]; omega) (by decide) (.inr rfl) U HU.k hP
      rw [cx] at hc
      refine hc.mono ?_
      clear hc cx hP
      rintro e W6 ⟨g5, rfl, hk, hge, hb⟩
      have HC' : Hid (CdZ w W6 g1 g2 L1 L2 true true (ptZ g5 (stirZ (stirZ (⟨List.replicate 32 0, List.replicate 32 1⟩ : KvZ) ([0] ++ (L1 ++ L2))) ([1] ++ (L1 ++ L2))).k) (ptZ g4 (stirZ (⟨List.replicate 32 0, List.replicate 32 1⟩ : KvZ) ([0] ++ (L1 ++ L2))).v)) := by
        have h := HU.keep hb
        exact ⟨h.B, h.d, h.e, ptZ_ok hk, h.v, fun _ => hk, h.vh⟩
      clear hk hge hb HU HC
      clear U
      go_wp2_with fail
      refine calls_world (fun U => CdZ w U g1 g2 L1 L2 true true (ptZ g5 (stirZ (stirZ (⟨List.replicate 32 0, List.replicate 32 1⟩ : KvZ) ([0] ++ (L1 ++ L2))) ([1] ++ (L1 ++ L2))).k) (ptZ g4 (stirZ (⟨List.replicate 32 0, List.replicate 32 1⟩ : KvZ) ([0] ++ (L1 ++ L2))).v) ∧ S.Prts U W6.heap.size 0 [(ptZ g4 (stirZ (⟨List.replicate 32 0, List.replicate 32 1⟩ : KvZ) ([0] ++ (L1 ++ L2))).v)]) ⟨HC'.out.keep (BA.out _ _), prts_oneZ rfl (ptZ_val (stirZ_ok _ _).2).symm HC'.out.v⟩ ?_
      rintro U ⟨HU, hP⟩
      have cx : S.catX [(ptZ g4 (stirZ (⟨List.replicate 32 0, List.replicate 32 1⟩ : KvZ) ([0] ++ (L1 ++ L2))).v)] = (stirZ (⟨List.replicate 32 0, List.replicate 32 1⟩ : KvZ) ([0] ++ (L1 ++ L2))).v := by simp [S.catX, ptZ]
      have hc := code_part (pk := (ptZ g5 (stirZ (stirZ (⟨List.replicate 32 0, List.replicate 32 1⟩ : KvZ) ([0] ++ (L1 ++ L2))) ([1] ++ (L1 ++ L2))).k)) (a := some ⟨W6.heap.size, 0, none⟩) (bp := W6.heap.size) (op := 0) (cp := 1) (n := 1) (PS := [(ptZ g4 (stirZ (⟨List.replicate 32 0, List.replicate 32 1⟩ : KvZ) ([0] ++ (L1 ++ L2))).v)]) (stirZ_ok _ _).1 rfl (by rw [cx]; have h32 := (show (stirZ (⟨List.replicate 32 0, List.replicate 32 1⟩ : KvZ) ([0] ++ (L1 ++ L2))).v.length = 32 from (stirZ_ok _ _).2); omega) (by decide) (.inr rfl) U HU.k hP
      rw [cx] at hc
      refine hc.mono ?_
      clear hc cx hP
      rintro e W7 ⟨g6, rfl, hk, hge, hb⟩
      have HC : Hid (CdZ w W7 g1 g2 L1 L2 true true (ptZ g5 (stirZ (stirZ (⟨List.replicate 32 0, List.replicate 32 1⟩ : KvZ) ([0] ++ (L1 ++ L2))) ([1] ++ (L1 ++ L2))).k) (ptZ g6 (stirZ (stirZ (⟨List.replicate 32 0, List.replicate 32 1⟩ : KvZ) ([0] ++ (L1 ++ L2))) ([1] ++ (L1 ++ L2))).v)) := by
        have h := HU.keep hb
        exact ⟨h.B, h.d, h.e, h.k, ptZ_ok hk, h.kh, fun _ => hk⟩
      clear hk hge hb HU HC'
      clear U
      have be : stZ key d = (stirZ (stirZ (⟨List.replicate 32 0, List.replicate 32 1⟩ : KvZ) ([0] ++ (L1 ++ L2))) ([1] ++ (L1 ++ L2))) := by unfold stZ begZ; rw [← LL.out.1, ← LL.out.2.1, List.append_assoc, List.append_assoc]
      rw [← be] at HC
      clear be
      obtain ⟨st, est⟩ : ∃ s, s = stZ key d := ⟨_, rfl⟩
      rw [← est] at HC
      have EST : Hid (st = stZ key d) := est
      have LS : Hid (LpZ w W7 g5 g6 (.slice none 0 0) (kvZ st 0).k (kvZ st 0).v ((List.range 0).map (cndZ st))) := ⟨HC.out.B, HC.out.kh rfl, HC.out.vh rfl, OwnU.none _ _, (fun e => nomatch e), (fun e => nomatch e)⟩
      clear est HC
      go_wp2_with fail
      go_loopg [9, 10, 12, 13] n (fun q vv kk lv iv wr => ∃ (i gk gv : Nat), q = n - i ∧ i ≤ n ∧ vv = .slice (some ⟨gv, 0, none⟩) 32 32 ∧ kk = .slice (some ⟨gk, 0, none⟩) 32 32 ∧ iv = .int .i64 (i : Int) ∧ LpZ w wr gk gv lv (kvZ st i).k (kvZ st i).v ((List.range i).map (cndZ st)))
      case atStart => exact ⟨0, g5, g6, rfl, Nat.zero_le _, rfl, rfl, rfl, LS.out⟩
      case round =>
        clear LS
        obtain ⟨i, gk', gv', hk, hi, rfl, rfl, rfl, hT⟩ := hrel
        have HK : Hid (gk = n - i) := hk
        have HT : Hid (LpZ w wr gk' gv' u12 (kvZ st i).k (kvZ st i).v ((List.range i).map (cndZ st))) := hT
        clear hk hT
        by_cases h8 : i = n
        · subst h8
          go_wp2_with fail
          refine bodyPost_ret (v := u12) ?_ rfl ⟨u12, rfl, by rw [← EST.out]; exact HT.out.l, HT.out.B⟩
          simp [results, Tryz.results66]
        · have hi' : (i : Int) < n := by omega
          by_cases h0 : i = 0
          · subst h0
            go_wp2_with fail
            have hc := code_part (pk := ptZ gk' (kvZ st 0).k) (a := some ⟨wr.heap.size, 0, none⟩) (bp := wr.heap.size) (op := 0) (cp := 1) (n := 1) (PS := [ptZ gv' (kvZ st 0).v]) HT.out.k.1 rfl (by simp only [S.catX, ptZ, List.flatMap_cons, List.flatMap_nil, List.append_nil]; have := HT.out.v.1; omega) (by decide) (.inr rfl)
            refine calls_world (fun U => LpZ w U gk' gv' u12 (kvZ st 0).k (kvZ st 0).v ((List.range 0).map (cndZ st)) ∧ S.Prts U wr.heap.size 0 [ptZ gv' (kvZ st 0).v]) ⟨HT.out.keep (BA.out _ _), prts_oneZ rfl (ptZ_val HT.out.v.1).symm (ptZ_ok HT.out.v)⟩ ?_
            rintro U ⟨HU, hP⟩
            refine (hc U (ptZ_ok HU.k) hP).mono ?_
            rw [show S.catX [ptZ gv' (kvZ st 0).v] = (kvZ st 0).v by simp [S.catX, ptZ], show (ptZ gk' (kvZ st 0).k).X = (kvZ st 0).k from rfl]
            clear hc hP
            rintro e W8 ⟨g8, rfl, hk, hge, hb⟩
            have HA : Hid (LpZ w W8 gk' g8 u12 (kvZ st 0).k (S.hmacL (kvZ st 0).k (kvZ st 0).v) ((List.range 0).map (cndZ st))) := HU.newv hb hk hge
            clear hk hge hb HU HT
            clear U
            have HP : Hid (LpZ w W8 gk' g8 u12 (kvZ st (0 + 1)).k (kvZ st (0 + 1)).v ((List.range 0).map (cndZ st))) := by rw [kvZ_next]; exact HA.out
            clear HA
            go_wp2_with fail
            refine (rgetZ HP.out.v).mono ?_
            rw [show sufN (ivZ (kvZ st (0 + 1)).v) 32 = cndZ st 0 from rfl]
            rintro e Wy ⟨rfl, hb⟩
            have HQ : Hid (LpZ w Wy gk' g8 u12 (kvZ st (0 + 1)).k (kvZ st (0 + 1)).v ((List.range 0).map (cndZ st))) := HP.out.keep hb
            clear hb HP
            obtain ⟨y, ey⟩ : ∃ y, y = cndZ st 0 := ⟨_, rfl⟩
            rw [← ey]
            have EY : Hid (y = cndZ st 0) := ey
            clear ey
            have LP : Hid (((List.range 0).map (cndZ st)).length ≤ 256) := by show ((List.range 0).map (cndZ st)).length ≤ 256; rw [List.length_map, List.length_range]; omega
            go_wp2_with (at_builtin; (refine wpList_append_own_at _ rfl _ _ 91 rfl w.heap.size 24 i1 (.agg #[.int .u64 0, .int .u64 0, .int .u64 0, .int .u64 0]) 4 32 Tryz.underlying91 HY.out.1 HY.out.2.1 HY.out.2.2.1 HY.out.2.2.2 rfl (by decide) u12 _ _ rfl ((HQ.out.l.row.alloc _).alloc _) ⟨Wy.heap.size + 1, 0, none⟩ 1 1 [.int .u64 (l0 y), .int .u64 (l1 y), .int .u64 (l2 y), .int .u64 (l3 y)] rfl rfl (cells_four _ _ _ _ _ _ (by simp)) (one_four y) (by unfold maxLen; have := LP.out; omega) (by have := LP.out; omega) (by have := HQ.out.B.size; simp; omega) ?_); intro v3 w3 hown hgrow hnil hblk; have T3 : Hid (LpZ w w3 gk' g8 v3 (kvZ st (0 + 1)).k (kvZ st (0 + 1)).v ((List.range 0).map (cndZ st) ++ [y])) := ((HQ.out.keep (BA.out _ _)).keep (BA.out _ _)).push hown hgrow hblk; clear hown hgrow hnil hblk)
            go_roundg (n - (0 + 1))
            case measure => have := HK.out; omega
            case rel =>
              refine ⟨0 + 1, gk', g8, rfl, by omega, rfl, rfl, by go_num, ?_⟩
              rw [← range_snocZ, ← EY.out]
              exact T3.out
          · have hp : (0 : Int) < (i : Int) := by omega
            go_wp2_with fail
            have cx : S.catX [ptZ gv' (kvZ st i).v, ⟨some ⟨wr.heap.size, 0, none⟩, wr.heap.size, 0, 1, [0]⟩] = (kvZ st i).v ++ [0] := by simp [S.catX, ptZ]
            have hc := code_part (pk := ptZ gk' (kvZ st i).k) (a := some ⟨wr.heap.size + 1, 0, none⟩) (bp := wr.heap.size + 1) (op := 0) (cp := 2) (n := 2) (PS := [ptZ gv' (kvZ st i).v, ⟨some ⟨wr.heap.size, 0, none⟩, wr.heap.size, 0, 1, [0]⟩]) HT.out.k.1 rfl (by rw [cx, List.length_append]; have := HT.out.v.1; simp only [List.length_cons, List.length_nil]; omega) (by decide) (.inr rfl)
            refine calls_world (fun U => LpZ w U gk' gv' u12 (kvZ st i).k (kvZ st i).v ((List.range i).map (cndZ st)) ∧ S.Prts U (wr.heap.size + 1) 0 [ptZ gv' (kvZ st i).v, ⟨some ⟨wr.heap.size, 0, none⟩, wr.heap.size, 0, 1, [0]⟩]) ⟨(HT.out.keep (BA.out _ _)).keep (BA.out _ _), two_partsZ rfl HT.out.v⟩ ?_
            rintro U ⟨HU, hP⟩
            refine (hc U (ptZ_ok HU.k) hP).mono ?_
            rw [cx, show (ptZ gk' (kvZ st i).k).X = (kvZ st i).k from rfl]
            clear hc hP cx
            rintro e W8 ⟨g8, rfl, hk, hge, hb⟩
            have HA : Hid (LpZ w W8 g8 gv' u12 (S.hmacL (kvZ st i).k ((kvZ st i).v ++ [0])) (kvZ st i).v ((List.range i).map (cndZ st))) := HU.newk hb hk hge
            clear hk hge hb HU HT
            clear U
            go_wp2_with fail
            have hc := code_part (pk := ptZ g8 (S.hmacL (kvZ st i).k ((kvZ st i).v ++ [0]))) (a := some ⟨W8.heap.size, 0, none⟩) (bp := W8.heap.size) (op := 0) (cp := 1) (n := 1) (PS := [ptZ gv' (kvZ st i).v]) HA.out.k.1 rfl (by simp only [S.catX, ptZ, List.flatMap_cons, List.flatMap_nil, List.append_nil]; have := HA.out.v.1; omega) (by decide) (.inr rfl)
            refine calls_world (fun U => LpZ w U g8 gv' u12 (S.hmacL (kvZ st i).k ((kvZ st i).v ++ [0])) (kvZ st i).v ((List.range i).map (cndZ st)) ∧ S.Prts U W8.heap.size 0 [ptZ gv' (kvZ st i).v]) ⟨HA.out.keep (BA.out _ _), prts_oneZ rfl (ptZ_val HA.out.v.1).symm (ptZ_ok HA.out.v)⟩ ?_
            rintro U ⟨HU, hP⟩
            refine (hc U (ptZ_ok HU.k) hP).mono ?_
            rw [show S.catX [ptZ gv' (kvZ st i).v] = (kvZ st i).v by simp [S.catX, ptZ], show (ptZ g8 (S.hmacL (kvZ st i).k ((kvZ st i).v ++ [0]))).X = (S.hmacL (kvZ st i).k ((kvZ st i).v ++ [0])) from rfl]
            clear hc hP
            rintro e W9 ⟨g9, rfl, hk, hge, hb⟩
            have HB : Hid (LpZ w W9 g8 g9 u12 (S.hmacL (kvZ st i).k ((kvZ st i).v ++ [0])) (S.hmacL (S.hmacL (kvZ st i).k ((kvZ st i).v ++ [0])) (kvZ st i).v) ((List.range i).map (cndZ st))) := HU.newv hb hk hge
            clear hk hge hb HU HA
            clear U
            go_wp2_with fail
            have hc := code_part (pk := ptZ g8 (S.hmacL (kvZ st i).k ((kvZ st i).v ++ [0]))) (a := some ⟨W9.heap.size, 0, none⟩) (bp := W9.heap.size) (op := 0) (cp := 1) (n := 1) (PS := [ptZ g9 (S.hmacL (S.hmacL (kvZ st i).k ((kvZ st i).v ++ [0])) (kvZ st i).v)]) HB.out.k.1 rfl (by simp only [S.catX, ptZ, List.flatMap_cons, List.flatMap_nil, List.append_nil]; have := HB.out.v.1; omega) (by decide) (.inr rfl)
            refine calls_world (fun U => LpZ w U g8 g9 u12 (S.hmacL (kvZ st i).k ((kvZ st i).v ++ [0])) (S.hmacL (S.hmacL (kvZ st i).k ((kvZ st i).v ++ [0])) (kvZ st i).v) ((List.range i).map (cndZ st)) ∧ S.Prts U W9.heap.size 0 [ptZ g9 (S.hmacL (S.hmacL (kvZ st i).k ((kvZ st i).v ++ [0])) (kvZ st i).v)]) ⟨HB.out.keep (BA.out _ _), prts_oneZ rfl (ptZ_val HB.out.v.1).symm (ptZ_ok HB.out.v)⟩ ?_
            rintro U ⟨HU, hP⟩
            refine (hc U (ptZ_ok HU.k) hP).mono ?_
            rw [show S.catX [ptZ g9 (S.hmacL (S.hmacL (kvZ st i).k ((kvZ st i).v ++ [0])) (kvZ st i).v)] = (S.hmacL (S.hmacL (kvZ st i).k ((kvZ st i).v ++ [0])) (kvZ st i).v) by simp [S.catX, ptZ], show (ptZ g8 (S.hmacL (kvZ st i).k ((kvZ st i).v ++ [0]))).X = (S.hmacL (kvZ st i).k ((kvZ st i).v ++ [0])) from rfl]
            clear hc hP
            rintro e WA ⟨ga, rfl, hk, hge, hb⟩
            have HD : Hid (LpZ w WA g8 ga u12 (S.hmacL (kvZ st i).k ((kvZ st i).v ++ [0])) (S.hmacL (S.hmacL (kvZ st i).k ((kvZ st i).v ++ [0])) (S.hmacL (S.hmacL (kvZ st i).k ((kvZ st i).v ++ [0])) (kvZ st i).v)) ((List.range i).map (cndZ st))) := HU.newv hb hk hge
            clear hk hge hb HU HB
            clear U
            have HP : Hid (LpZ w WA g8 ga u12 (kvZ st (i + 1)).k (kvZ st (i + 1)).v ((List.range i).map (cndZ st))) := by rw [kvZ_next, show aheadZ st i = stirZ (kvZ st i) [0] from if_neg h0]; exact HD.out
            clear HD
            go_wp2_with fail
            refine (rgetZ HP.out.v).mono ?_
            rw [show sufN (ivZ (kvZ st (i + 1)).v) 32 = cndZ st i from rfl]
            rintro e Wy ⟨rfl, hb⟩
            have HQ : Hid (LpZ w Wy g8 ga u12 (kvZ st (i + 1)).k (kvZ st (i + 1)).v ((List.range i).map (cndZ st))) := HP.out.keep hb
            clear hb HP
            obtain ⟨y, ey⟩ : ∃ y, y = cndZ st i := ⟨_, rfl⟩
            rw [← ey]
            have EY : Hid (y = cndZ st i) := ey
            clear ey
            have LP : Hid (((List.range i).map (cndZ st)).length ≤ 256) := by show ((List.range i).map (cndZ st)).length ≤ 256; rw [List.length_map, List.length_range]; omega
            go_wp2_with (at_builtin; (refine wpList_append_own_at _ rfl _ _ 91 rfl w.heap.size 24 i1 (.agg #[.int .u64 0, .int .u64 0, .int .u64 0, .int .u64 0]) 4 32 Tryz.underlying91 HY.out.1 HY.out.2.1 HY.out.2.2.1 HY.out.2.2.2 rfl (by decide) u12 _ _ rfl ((HQ.out.l.row.alloc _).alloc _) ⟨Wy.heap.size + 1, 0, none⟩ 1 1 [.int .u64 (l0 y), .int .u64 (l1 y), .int .u64 (l2 y), .int .u64 (l3 y)] rfl rfl (cells_four _ _ _ _ _ _ (by simp)) (one_four y) (by unfold maxLen; have := LP.out; omega) (by have := LP.out; omega) (by have := HQ.out.B.size; simp; omega) ?_); intro v3 w3 hown hgrow hnil hblk; have T3 : Hid (LpZ w w3 g8 ga v3 (kvZ st (i + 1)).k (kvZ st (i + 1)).v ((List.range i).map (cndZ st) ++ [y])) := ((HQ.out.keep (BA.out _ _)).keep (BA.out _ _)).push hown hgrow hblk; clear hown hgrow hnil hblk)
            go_roundg (n - (i + 1))
            case measure => have := HK.out; omega
            case rel =>
              refine ⟨i + 1, g8, ga, rfl, by omega, rfl, rfl, by go_num, ?_⟩
              rw [← range_snocZ, ← EY.out]
              exact T3.out
    · have hi' : (i : Int) < 32 := by omega
      have y1 : Hid (S.Y 1 = 1) := by show S.Y 1 = 1; rw [S.Y_eq]; rfl
      have y0 : Hid (S.Y 0 = 0) := S.Y_zero
      go_wp2_with first | ((at_builtin; (refine wpList_append_own_at _ rfl _ _ 76 rfl b0 5 i0 (.int .u8 0) 1 1 Tryz.underlying76 HZ.out.1 HZ.out.2.1 HZ.out.2.2.1 HZ.out.2.2.2 rfl (by decide) u9 _ _ rfl (HT.out.v.row.alloc _) ⟨wr.heap.size, 0, none⟩ 1 1 [.int .u8 1] rfl rfl (cell_one_new _ _ _) (fun u hu => by simp at hu; subst hu; rfl) (by unfold maxLen; rw [List.length_replicate]; omega) (by rw [List.length_replicate]; omega) (by have := HT.out.hi; simp; omega) ?_); intro v' w4 hown hgrow hnil hblk; (have HT1 : Hid (TvZ w w4 b0 g1 g2 L1 L2 v' u10 (List.replicate i 1 ++ [1]) (List.replicate i 0)) := HT.out.push (by rw [y1.out]; exact hown) hgrow hblk); clear hown hgrow hnil hblk)) | ((at_builtin; (refine wpList_append_own_at _ rfl _ _ 76 rfl b0 5 i0 (.int .u8 0) 1 1 Tryz.underlying76 HZ.out.1 HZ.out.2.1 HZ.out.2.2.1 HZ.out.2.2.2 rfl (by decide) u10 _ _ rfl (HT1.out.k.row.alloc _) ⟨w4.heap.size, 0, none⟩ 1 1 [.int .u8 0] rfl rfl (cell_one_new _ _ _) (fun u hu => by simp at hu; subst hu; rfl) (by unfold maxLen; rw [List.length_replicate]; omega) (by rw [List.length_replicate]; omega) (by have := HT1.out.hi; simp; omega) ?_); intro k' w5 hown hgrow hnil hblk; (have HT2 : Hid (TvZ w w5 b0 g1 g2 L1 L2 v' k' (List.replicate i 1 ++ [1]) (List.replicate i 0 ++ [0])) := (HT1.out.swap.push (x := 0) (by rw [y0.out]; exact hown) hgrow hblk).swap); clear hown hgrow hnil hblk))
      go_roundg (32 - (i + 1))
      case measure => have := HK.out; omega
      case rel =>
        refine ⟨i + 1, rfl, by omega, by go_num, ?_⟩
        rw [← rep_snoc, ← rep_snoc]
        exact HT2.out
end Go.Proofs.YtncpjgpioajbeaaGreatDoor

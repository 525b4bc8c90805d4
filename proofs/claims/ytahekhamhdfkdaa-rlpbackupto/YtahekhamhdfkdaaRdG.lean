import Derived.Test.YtahekhamhdfkdaaRdF
/- Layer 7: Decode's machine. -/
namespace Go.Proofs.Ytahekhamhdfkdaa
open Go.RowKit Go.Sort
set_option maxRecDepth 100000 in
set_option maxHeartbeats 8000000 in
theorem ins_more {A : List Int} {R : Int × Tr} {QQ : Exit → Act → World → Prop} {inn ev qv : Value} {ba : Option Addr} {bn bc p n g k cap e : Nat} (w0 W : World) (hk : (k : Int) ≤ 1024) (hp : (p : Int) < (e : Int)) (ce : W.cell? ⟨g, k * 2, none⟩ = some (.int .i64 (e : Int)))
    (GO : Hid (∀ a inn, FrD w0 (.slice ba bn bc) (.slice (some ⟨g, 0, none⟩) (k + 1) cap) inn (.int .i64 (p : Int)) (.int .i64 (e : Int)) ev a → ∃ m, m < n ∧ JD A (.slice ba bn bc) w0 R m 1 a W))
    (x11 x12 x13 x14 x15 x16 x17 x18 x19 x20 x21 x22 x23 x24 x25 x26 x27 x28 x29 x30 x31 x32 x33 x34 x35 x36 x37 x38 x39 x40 x41 x42 x43 x44 x45 x46 x47 x48 x49 x50 x51 x52 x53 x54 x55 x56 x57 x58 x59 x60 x61 x62 x63 x64 x65 x66 x67 x68 x69 x70 x71 x72 x73 x74 x75 x76 x77 x78 x79 x80 x81 x82 x83 x84 x85 x86 x87 x88 x89 x90 x91 x92 x93 x94 x95 x96 x97 x98 x99 x100 x101 x102 x103 : Value) : WpLab Try.prog Try.f10 4 (jumps (fun l a w => ∃ m, m < n ∧ JD A (.slice ba bn bc) w0 R m l a w) QQ) { tmps := #[.slice ba bn bc, undef, .pointer (some ⟨w0.heap.size, 0, none⟩), .int .i64 0, .slice (some ⟨g, 0, none⟩) (k + 1) cap, inn, .int .i64 (p : Int), qv, .pointer (some ⟨w0.heap.size + 1, 0, none⟩), .pointer (some ⟨w0.heap.size + 2, 0, none⟩), ev, x11, x12, x13, x14, x15, x16, x17, x18, x19, x20, x21, x22, x23, x24, x25, x26, x27, x28, x29, x30, x31, x32, x33, x34, x35, x36, x37, x38, x39, x40, x41, x42, x43, x44, x45, x46, x47, x48, x49, x50, x51, x52, x53, x54, x55, x56, x57, x58, x59, x60, x61, x62, x63, x64, x65, x66, x67, x68, x69, x70, x71, x72, x73, x74, x75, x76, x77, x78, x79, x80, x81, x82, x83, x84, x85, x86, x87, x88, x89, x90, x91, x92, x93, x94, x95, x96, x97, x98, x99, x100, x101, x102, x103], defers := [] } W := by
  refine WpLab.intro (by rfl) (by rfl) ?_
  go_wp2_with fail
  go_step3
  refine GO.out _ (.pointer (some ⟨g, k * 2, none⟩)) ?_
  exact ⟨_, _, _, _, _, _, _, _, _, _, _, _, _, _, _, _, _, _, _, _, _, _, _, _, _, _, _, _, _, _, _, _, _, _, _, _, _, _, _, _, _, _, _, _, _, _, _, _, _, _, _, _, _, _, _, _, _, _, _, _, _, _, _, _, _, _, _, _, _, _, _, _, _, _, _, _, _, _, _, _, _, _, _, _, _, _, _, _, _, _, _, _, _, rfl⟩
set_option maxRecDepth 100000 in
set_option maxHeartbeats 8000000 in
theorem ins_pop {A : List Int} {R : Int × Tr} {QQ : Exit → Act → World → Prop} {inn ev qv : Value} {ba va : Option Addr} {bn bc p n g k cap e vn vc : Nat} (w0 W : World) (hk : (k : Int) ≤ 1024) (hc : k + 1 ≤ cap) (hp : ¬ (p : Int) < (e : Int)) (ce : W.cell? ⟨g, k * 2, none⟩ = some (.int .i64 (e : Int))) (cv : W.cell? ⟨g, k * 2 + 1, none⟩ = some (.slice va vn vc))
    (DM : Hid (Dm w0 W)) (GO : Hid (∀ a inn, FrD w0 (.slice ba bn bc) (.slice (some ⟨g, 0, none⟩) k cap) inn (.int .i64 (p : Int)) (.int .i64 (e : Int)) ev a → WpLab Try.prog Try.f10 3 (jumps (fun l a w => ∃ m, m < n ∧ JD A (.slice ba bn bc) w0 R m l a w) QQ) a (W.setCells (w0.heap.size + 2) 0 [.bool true, .slice none 0 0, .slice va vn vc])))
    (x11 x12 x13 x14 x15 x16 x17 x18 x19 x20 x21 x22 x23 x24 x25 x26 x27 x28 x29 x30 x31 x32 x33 x34 x35 x36 x37 x38 x39 x40 x41 x42 x43 x44 x45 x46 x47 x48 x49 x50 x51 x52 x53 x54 x55 x56 x57 x58 x59 x60 x61 x62 x63 x64 x65 x66 x67 x68 x69 x70 x71 x72 x73 x74 x75 x76 x77 x78 x79 x80 x81 x82 x83 x84 x85 x86 x87 x88 x89 x90 x91 x92 x93 x94 x95 x96 x97 x98 x99 x100 x101 x102 x103 : Value) : WpLab Try.prog Try.f10 4 (jumps (fun l a w => ∃ m, m < n ∧ JD A (.slice ba bn bc) w0 R m l a w) QQ) { tmps := #[.slice ba bn bc, undef, .pointer (some ⟨w0.heap.size, 0, none⟩), .int .i64 0, .slice (some ⟨g, 0, none⟩) (k + 1) cap, inn, .int .i64 (p : Int), qv, .pointer (some ⟨w0.heap.size + 1, 0, none⟩), .pointer (some ⟨w0.heap.size + 2, 0, none⟩), ev, x11, x12, x13, x14, x15, x16, x17, x18, x19, x20, x21, x22, x23, x24, x25, x26, x27, x28, x29, x30, x31, x32, x33, x34, x35, x36, x37, x38, x39, x40, x41, x42, x43, x44, x45, x46, x47, x48, x49, x50, x51, x52, x53, x54, x55, x56, x57, x58, x59, x60, x61, x62, x63, x64, x65, x66, x67, x68, x69, x70, x71, x72, x73, x74, x75, x76, x77, x78, x79, x80, x81, x82, x83, x84, x85, x86, x87, x88, x89, x90, x91, x92, x93, x94, x95, x96, x97, x98, x99, x100, x101, x102, x103], defers := [] } W := by
  refine WpLab.intro (by rfl) (by rfl) ?_
  have j1 : (k : Int) ≤ (cap : Int) := by omega
  go_wp2_with ((refine wpList_store_mid rfl _ _ _ rfl (w0.heap.size + 2) 0 #[.bool true, .slice none 0 0, .slice va vn vc] rfl rfl DM.out.it size_it (by kernel_rfl) ?_); (refine wpList_worldE (fun V => V = W.setCells (w0.heap.size + 2) 0 [.bool true, .slice none 0 0, .slice va vn vc]) rfl ?_); rintro V eV; (have EV : Hid (V = W.setCells (w0.heap.size + 2) 0 [.bool true, .slice none 0 0, .slice va vn vc]) := eV); clear eV)
  rename_i KK hKK
  go_step3
  refine hKK _ _ ?_
  rw [EV.out]
  refine (GO.out _ (.pointer (some ⟨g, k * 2, none⟩)) ?_).out (by rfl) (by rfl)
  exact ⟨_, _, _, _, _, _, _, _, _, _, _, _, _, _, _, _, _, _, _, _, _, _, _, _, _, _, _, _, _, _, _, _, _, _, _, _, _, _, _, _, _, _, _, _, _, _, _, _, _, _, _, _, _, _, _, _, _, _, _, _, _, _, _, _, _, _, _, _, _, _, _, _, _, _, _, _, _, _, _, _, _, _, _, _, _, _, _, _, _, _, _, _, _, rfl⟩
/-- At 'inside'. -/
theorem dec_ins {A : List Int} {R : Int × Tr} {inn ev qv sv v : Value} {ba : Option Addr} {bn bc p n e : Nat} {ts : List Tr} {L : List LvT} {M : Nat} {a : Act} (w0 W : World) (hbn : bn = A.length) (hA : A.length ≤ 16777216)
    (hf : FrD w0 (.slice ba bn bc) sv inn (.int .i64 (p : Int)) qv ev a) (DM : Dm w0 W) (SK : Stk (w0.heap.size + 3) W sv ((e, ts, v) :: L) M) (hpe : p ≤ e) (hwf : WfD A e L) (hcn : CnS p L) (hts : ts.length ≤ p) (hL : L.length + 1 ≤ 1024) (hR : R = insD A e ts L p) (hn : 4 * (A.length - p) + 2 * (L.length + 1) + 2 ≤ n) :
    WpLab Try.prog Try.f10 4 (jumps (fun l a w => ∃ m, m < n ∧ JD A (.slice ba bn bc) w0 R m l a w) (bodyPost Try.prog Try.f10 (fun e w' => ∃ d q, e = .returned (.tuple #[itV R.2 d q, .int .i64 R.1]) ∧ Ot w' R.2 (fun k => w0.heap.size ≤ k) d q ∧ Below w0.heap.size w0 w'))) a W := by
  obtain ⟨x11, x12, x13, x14, x15, x16, x17, x18, x19, x20, x21, x22, x23, x24, x25, x26, x27, x28, x29, x30, x31, x32, x33, x34, x35, x36, x37, x38, x39, x40, x41, x42, x43, x44, x45, x46, x47, x48, x49, x50, x51, x52, x53, x54, x55, x56, x57, x58, x59, x60, x61, x62, x63, x64, x65, x66, x67, x68, x69, x70, x71, x72, x73, x74, x75, x76, x77, x78, x79, x80, x81, x82, x83, x84, x85, x86, x87, x88, x89, x90, x91, x92, x93, x94, x95, x96, x97, x98, x99, x100, x101, x102, x103, rfl⟩ := hf
  obtain ⟨g, cap, rfl, hc, gB, gW, ce, cv, _, _⟩ := SK.top
  have hk : (L.length : Int) ≤ 1024 := by omega
  have hel := hwf.le
  by_cases k : p < e
  · refine ins_more w0 W hk (by omega) ce (fun a inn hf => ?_) x11 x12 x13 x14 x15 x16 x17 x18 x19 x20 x21 x22 x23 x24 x25 x26 x27 x28 x29 x30 x31 x32 x33 x34 x35 x36 x37 x38 x39 x40 x41 x42 x43 x44 x45 x46 x47 x48 x49 x50 x51 x52 x53 x54 x55 x56 x57 x58 x59 x60 x61 x62 x63 x64 x65 x66 x67 x68 x69 x70 x71 x72 x73 x74 x75 x76 x77 x78 x79 x80 x81 x82 x83 x84 x85 x86 x87 x88 x89 x90 x91 x92 x93 x94 x95 x96 x97 x98 x99 x100 x101 x102 x103
    rw [ins_beg (v := v) k hel] at hR
    exact ⟨_, by rw [List.length_cons]; omega, _, inn, ev, p, e, (e, ts, v) :: L, M, hf, DM, SK, hpe, ⟨Nat.le_refl _, hwf⟩, fun x hx => by
      rcases List.mem_cons.1 hx with rfl | hx
      · exact hts
      · exact hcn.weak x hx, hL, hR, Nat.le_refl _⟩
  · obtain ⟨ps, _, _, _, va, vc, rfl⟩ := SK.row
    refine ins_pop w0 W hk hc (by omega) ce cv DM (fun a inn hf => ?_) x11 x12 x13 x14 x15 x16 x17 x18 x19 x20 x21 x22 x23 x24 x25 x26 x27 x28 x29 x30 x31 x32 x33 x34 x35 x36 x37 x38 x39 x40 x41 x42 x43 x44 x45 x46 x47 x48 x49 x50 x51 x52 x53 x54 x55 x56 x57 x58 x59 x60 x61 x62 x63 x64 x65 x66 x67 x68 x69 x70 x71 x72 x73 x74 x75 x76 x77 x78 x79 x80 x81 x82 x83 x84 x85 x86 x87 x88 x89 x90 x91 x92 x93 x94 x95 x96 x97 x98 x99 x100 x101 x102 x103
    obtain ⟨m, hm, SP, OR⟩ := SK.pop
    have ep : p = e := by omega
    rw [ins_end (by omega)] at hR
    have c := chg_setCells (w0.heap.size + 2) [.bool true, .slice none 0 0, .slice va ts.length vc] 0 W
    have mb := SP.2.1.base
    refine dec_end w0 _ hbn hA hf (DM.set 2 _ (by omega) (by omega)) (SP.set 2 _ (by omega)) (t := .mk true [] ts) (World.rangeAt_setCells_same _ _ _ _ DM.it) ?_ (by rw [ep]; exact hwf) hcn (by omega) (by rw [ep]; exact hR) (by omega)
    exact Ot.mk (OwnB.nil _ _) (fun j x => by cases x) (Orow.conv (fun j hj hS => ⟨hS, c.block j hj (by have := hS.1; omega)⟩) OR)
theorem two_new7 (W : World) (u v : Value) (t : TypeId) : ∀ j x, [u, v][j]? = some x → (W.alloc (.cells #[u, v] t)).cell? ((⟨W.heap.size, 0, none⟩ : Addr).add j) = some x := fun j x hx => by
  have hn : (W.alloc (.cells #[u, v] t)).heap[W.heap.size]? = some (.cells #[u, v] t) := by
    show (W.heap.push _)[W.heap.size]? = _
    simp
  rw [Addr.add_mid, Nat.zero_add, cell_of_row _ _ j _ _ _ hn]
  simpa using hx
theorem info_lv : (Try.prog.info? 71).map (fun i => (i.zero, i.size, i.bytes)) = some (some (.agg #[.int .i64 0, .slice none 0 0]), 2, 32) := by kernel_rfl
set_option maxRecDepth 100000 in
set_option maxHeartbeats 8000000 in
theorem dwn_deep {A : List Int} {R : Int × Tr} {QQ : Exit → Act → World → Prop} {inn ev qv : Value} {sa ba : Option Addr} {bn bc p n sc : Nat} (w0 W : World) (DM : Hid (Dm w0 W)) (HN : Hid (1 ≤ n)) (HR : Hid (R = (74, zT)))
    (x11 x12 x13 x14 x15 x16 x17 x18 x19 x20 x21 x22 x23 x24 x25 x26 x27 x28 x29 x30 x31 x32 x33 x34 x35 x36 x37 x38 x39 x40 x41 x42 x43 x44 x45 x46 x47 x48 x49 x50 x51 x52 x53 x54 x55 x56 x57 x58 x59 x60 x61 x62 x63 x64 x65 x66 x67 x68 x69 x70 x71 x72 x73 x74 x75 x76 x77 x78 x79 x80 x81 x82 x83 x84 x85 x86 x87 x88 x89 x90 x91 x92 x93 x94 x95 x96 x97 x98 x99 x100 x101 x102 x103 : Value) : WpLab Try.prog Try.f10 2 (jumps (fun l a w => ∃ m, m < n ∧ JD A (.slice ba bn bc) w0 R m l a w) QQ) { tmps := #[.slice ba bn bc, undef, .pointer (some ⟨w0.heap.size, 0, none⟩), .int .i64 0, .slice sa 1024 sc, inn, .int .i64 (p : Int), qv, .pointer (some ⟨w0.heap.size + 1, 0, none⟩), .pointer (some ⟨w0.heap.size + 2, 0, none⟩), ev, x11, x12, x13, x14, x15, x16, x17, x18, x19, x20, x21, x22, x23, x24, x25, x26, x27, x28, x29, x30, x31, x32, x33, x34, x35, x36, x37, x38, x39, x40, x41, x42, x43, x44, x45, x46, x47, x48, x49, x50, x51, x52, x53, x54, x55, x56, x57, x58, x59, x60, x61, x62, x63, x64, x65, x66, x67, x68, x69, x70, x71, x72, x73, x74, x75, x76, x77, x78, x79, x80, x81, x82, x83, x84, x85, x86, x87, x88, x89, x90, x91, x92, x93, x94, x95, x96, x97, x98, x99, x100, x101, x102, x103], defers := [] } W := by
  refine WpLab.intro (by rfl) (by rfl) ?_
  go_wp2_with fail
  go_step3
  exact ⟨0, HN.out, 74, _, inn, _, _, HR.out, ⟨_, _, _, _, _, _, _, _, _, _, _, _, _, _, _, _, _, _, _, _, _, _, _, _, _, _, _, _, _, _, _, _, _, _, _, _, _, _, _, _, _, _, _, _, _, _, _, _, _, _, _, _, _, _, _, _, _, _, _, _, _, _, _, _, _, _, _, _, _, _, _, _, _, _, _, _, _, _, _, _, _, _, _, _, _, _, _, _, _, _, _, _, _, rfl⟩, DM.out⟩
set_option maxRecDepth 100000 in
set_option maxHeartbeats 8000000 in
theorem dwn_push {A : List Int} {R : Int × Tr} {QQ : Exit → Act → World → Prop} {inn ev qv : Value} {sa ba : Option Addr} {bn bc p n k sc h E : Nat} {L : List LvT} (w0 W : World) (hk : ((k : Int) == 1024) = false) (hh : (h : Int) ≤ 16777216) (hp : (p : Int) ≤ 16777216) (hE : (p : Int) + (h : Int) = (E : Int)) (ch : W.cell? ⟨w0.heap.size + 1, 2, none⟩ = some (.int .i64 (h : Int)))
    (SK : Hid (W.ownsRow (w0.heap.size + 3) 71 2 (.slice sa k sc) k (stC L) ∧ k < 1024 ∧ w0.heap.size + 3 ≤ W.heap.size))
    (GO : Hid (∀ V W1 v' a inn, Below W.heap.size W W1 → V.ownsRow (w0.heap.size + 3) 71 2 v' (k + 1) (stC L ++ [.int .i64 (E : Int), .slice none 0 0]) → W1.grownBy V (Value.slice sa k sc).ownBlock → (v'.ownBlock = (Value.slice sa k sc).ownBlock ∨ v'.ownBlock = some W1.heap.size) → FrD w0 (.slice ba bn bc) v' inn (.int .i64 (p : Int)) qv ev a → WpLab Try.prog Try.f10 4 (jumps (fun l a w => ∃ m, m < n ∧ JD A (.slice ba bn bc) w0 R m l a w) QQ) a V))
    (x11 x12 x13 x14 x15 x16 x17 x18 x19 x20 x21 x22 x23 x24 x25 x26 x27 x28 x29 x30 x31 x32 x33 x34 x35 x36 x37 x38 x39 x40 x41 x42 x43 x44 x45 x46 x47 x48 x49 x50 x51 x52 x53 x54 x55 x56 x57 x58 x59 x60 x61 x62 x63 x64 x65 x66 x67 x68 x69 x70 x71 x72 x73 x74 x75 x76 x77 x78 x79 x80 x81 x82 x83 x84 x85 x86 x87 x88 x89 x90 x91 x92 x93 x94 x95 x96 x97 x98 x99 x100 x101 x102 x103 : Value) : WpLab Try.prog Try.f10 2 (jumps (fun l a w => ∃ m, m < n ∧ JD A (.slice ba bn bc) w0 R m l a w) QQ) { tmps := #[.slice ba bn bc, undef, .pointer (some ⟨w0.heap.size, 0, none⟩), .int .i64 0, .slice sa k sc, inn, .int .i64 (p : Int), qv, .pointer (some ⟨w0.heap.size + 1, 0, none⟩), .pointer (some ⟨w0.heap.size + 2, 0, none⟩), ev, x11, x12, x13, x14, x15, x16, x17, x18, x19, x20, x21, x22, x23, x24, x25, x26, x27, x28, x29, x30, x31, x32, x33, x34, x35, x36, x37, x38, x39, x40, x41, x42, x43, x44, x45, x46, x47, x48, x49, x50, x51, x52, x53, x54, x55, x56, x57, x58, x59, x60, x61, x62, x63, x64, x65, x66, x67, x68, x69, x70, x71, x72, x73, x74, x75, x76, x77, x78, x79, x80, x81, x82, x83, x84, x85, x86, x87, x88, x89, x90, x91, x92, x93, x94, x95, x96, x97, x98, x99, x100, x101, x102, x103], defers := [] } W := by
  refine WpLab.intro (by rfl) (by rfl) ?_
  obtain ⟨i, hi, hi2⟩ := Option.map_eq_some_iff.1 info_lv
  simp only [Prod.mk.injEq] at hi2
  have hz0 := hi2.1
  have hz1 := hi2.2.1
  have hz2 := hi2.2.2
  clear hi2
  go_wp2_with (at_builtin; go_loud (refine wpList_append_own_at _ rfl _ _ 64 rfl (w0.heap.size + 3) 71 i (.agg #[.int .i64 0, .slice none 0 0]) 2 32 Try.underlying64 hi hz0 hz1 hz2 rfl (by decide) (.slice sa k sc) k (stC L) rfl (row_kept SK.out.1 fun j _ hj => ((Below.refl W.heap.size W).alloc (Nat.le_refl _) _).block j hj) ⟨W.heap.size, 0, none⟩ 1 1 [.int .i64 (E : Int), .slice none 0 0] rfl rfl (two_new7 W _ _ _) (fun y hy => by simp at hy; rcases hy with rfl | rfl <;> rfl) (by unfold maxLen; have := SK.out.2.1; omega) (by have := SK.out.2.1; omega) (by have := SK.out.2.2; simp; omega) ?_); intro v' V ho hg hnil hv)
  rename_i KK hKK
  go_step3
  refine hKK _ _ ?_
  refine (GO.out V _ v' _ inn ((Below.refl W.heap.size W).alloc (Nat.le_refl _) _) ho hg hv ?_).out (by rfl) (by rfl)
  exact ⟨_, _, _, _, _, _, _, _, _, _, _, _, _, _, _, _, _, _, _, _, _, _, _, _, _, _, _, _, _, _, _, _, _, _, _, _, _, _, _, _, _, _, _, _, _, _, _, _, _, _, _, _, _, _, _, _, _, _, _, _, _, _, _, _, _, _, _, _, _, _, _, _, _, _, _, _, _, _, _, _, _, _, _, _, _, _, _, _, _, _, _, _, _, rfl⟩
end Go.Proofs.Ytahekhamhdfkdaa

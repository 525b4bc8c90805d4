import Derived.Test.YtncpjgpioajbeaaGreatDoorNzF
import Derived.Test.YtncpjgpioajbeaaGreatDoorSRHd
import Derived.Test.YtncpjgpioajbeaaGreatDoorR6N
/- Nonces: the document's code and bytes. -/
namespace Go.Proofs.YtncpjgpioajbeaaGreatDoor
open Go.RowKit Go.Sort

theorem rputZ_any {n : Int} (w : World) : Calls Tryz.prog 119 #[.agg #[.int .u64 (l0 n), .int .u64 (l1 n), .int .u64 (l2 n), .int .u64 (l3 n)]] w fun e w' => e = .returned (.agg (S.byts (pbZ n)).toArray) ∧ Below w.heap.size w w' := by
  rw [pbZ, byts_bvZ (putL_bytsZ n)]
  exact rput_any w
/-- A whole array stored into a block just made. -/
theorem newly {W : World} {t : TypeId} {M : List (BitVec 8)} (hl : M.length = 32) : (W.alloc (.cells (S.byts (List.replicate 32 0)).toArray t)).there W.heap.size 0 (S.byts M).toArray.size ∧ Below W.heap.size W ((W.alloc (.cells (S.byts (List.replicate 32 0)).toArray t)).setCells W.heap.size 0 (S.byts M)) ∧ S.Hsh ((W.alloc (.cells (S.byts (List.replicate 32 0)).toArray t)).setCells W.heap.size 0 (S.byts M)) W.heap.size M := by
  have h := S.Hsh.new (M := List.replicate 32 0) (by simp) t (W := W) rfl
  have o := stored_off (M := M) h hl
  have b := (Below.refl W.heap.size W).alloc (Nat.le_refl _) (.cells (S.byts (List.replicate 32 0)).toArray t)
  have sz : (S.byts M).toArray.size = 32 := by simp [S.byts_len, hl]
  refine ⟨by rw [sz]; exact h.there, b.trans (o.2.below (by simp) (Nat.le_refl _)), o.1⟩
set_option maxRecDepth 100000 in
set_option maxHeartbeats 8000000 in
theorem rcode_any {ka a : Option Addr} {kb ko kc bp op cp n m : Nat} {X : List (BitVec 8)} {PS : List S.Part} (hm : X.length = m) (hn : PS.length = n) (hl : X.length < 1073740000) (hc : X.length ≤ kc) (hka : S.At ka kb ko X) (hs : (S.catX PS).length < 1073730000) (hb : PS.length ≤ 1073730000) (ha : PS = [] ∨ a = some ⟨bp, op, none⟩) (w : World) (hX : S.Byo w kb ko X) (hP : S.Prts w bp op PS) :
    Calls Tryz.prog 97 #[.slice ka m kc, .slice a n cp] w fun e w' => ∃ g, e = .returned (.slice (some ⟨g, 0, none⟩) 32 32) ∧ S.Hsh w' g (S.hmacL X (S.catX PS)) ∧ w.heap.size ≤ g ∧ Below w.heap.size w w' := by
  have CH := S.rhmac_any (cp := cp) hl hc hka hs hb ha w hX hP
  rw [hm, hn] at CH
  obtain ⟨N, eN⟩ : ∃ N, N = S.hmacL X (S.catX PS) := ⟨_, rfl⟩
  rw [← eN] at CH ⊢
  have lN : Hid (N.length = 32) := by show N.length = 32; rw [eN, hmacL_len]
  clear eN hm hn hl hc hka hs hb ha hX hP
  have sz : (S.byts N).toArray.size = 32 := by simp [S.byts_len, lN.out]
  have oc := S.one_byts N
  obtain ⟨M, eM⟩ : ∃ M, M = S.byts N := ⟨_, rfl⟩
  rw [← eM] at CH sz oc
  have EM : Hid (M = S.byts N) := eM
  clear eM
  go_enter Tryz.func97, Tryz.ntmps97
  go_wp2_with fail
  refine CH.mono ?_
  clear CH
  rintro e w1 ⟨rfl, hb⟩
  have HB : Hid (Below w.heap.size w w1) := hb
  have NW := fun t => newly (W := w1) (t := t) lN.out
  rw [← EM.out] at NW
  have th := fun t => (NW t).1
  have FF : Hid (∀ t, Below w.heap.size w ((w1.alloc (.cells (S.byts (List.replicate 32 0)).toArray t)).setCells w1.heap.size 0 M) ∧ S.Hsh ((w1.alloc (.cells (S.byts (List.replicate 32 0)).toArray t)).setCells w1.heap.size 0 M) w1.heap.size N ∧ w.heap.size ≤ w1.heap.size) := fun t => ⟨hb.trans ((NW t).2.1.mono hb.size), (NW t).2.2, hb.size⟩
  rw [zerosZ] at th FF
  clear NW hb
  go_wp2_with ((refine wpList_store_mid rfl 26 _ _ rfl w1.heap.size 0 M.toArray rfl rfl (th _) (by rw [sz]; kernel_rfl) oc ?_); (refine wpList_world (fun W => Below w.heap.size w W ∧ S.Hsh W w1.heap.size N ∧ w.heap.size ≤ w1.heap.size) (FF.out _) ?_); clear FF th sz oc; rintro W HW)
  refine bodyPost_ret (v := .slice (some ⟨w1.heap.size, 0, none⟩) 32 32) ?_ rfl ⟨w1.heap.size, rfl, HW.2.1, HW.2.2, HW.1⟩
  simp [results, Tryz.results97]
set_option maxRecDepth 100000 in
set_option maxHeartbeats 8000000 in
theorem rb32_any {x : Int} (w : World) :
    Calls Tryz.prog 95 #[.agg #[.int .u64 (l0 x), .int .u64 (l1 x), .int .u64 (l2 x), .int .u64 (l3 x)]] w fun e w' => ∃ g, e = .returned (.slice (some ⟨g, 0, none⟩) 32 32) ∧ S.Hsh w' g (pbZ x) ∧ w.heap.size ≤ g ∧ Below w.heap.size w w' := by
  have CH := rputZ_any (n := x)
  obtain ⟨N, eN⟩ : ∃ N, N = pbZ x := ⟨_, rfl⟩
  rw [← eN] at CH ⊢
  have lN : Hid (N.length = 32) := by show N.length = 32; rw [eN, pbZ_len]
  clear eN
  have sz : (S.byts N).toArray.size = 32 := by simp [S.byts_len, lN.out]
  have oc := S.one_byts N
  obtain ⟨M, eM⟩ : ∃ M, M = S.byts N := ⟨_, rfl⟩
  rw [← eM] at CH sz oc
  have EM : Hid (M = S.byts N) := eM
  clear eM
  go_enter Tryz.func95, Tryz.ntmps95
  go_wp2_with fail
  refine calls_world (fun W => Below w.heap.size w W) ((Below.refl _ _).alloc (Nat.le_refl _) _) ?_
  rintro W0 B0
  refine (CH W0).mono ?_
  clear CH
  rintro e w1 ⟨rfl, hb⟩
  replace hb := B0.trans (hb.mono B0.size)
  clear B0 W0
  have HB : Hid (Below w.heap.size w w1) := hb
  have NW := fun t => newly (W := w1) (t := t) lN.out
  rw [← EM.out] at NW
  have th := fun t => (NW t).1
  have FF : Hid (∀ t, Below w.heap.size w ((w1.alloc (.cells (S.byts (List.replicate 32 0)).toArray t)).setCells w1.heap.size 0 M) ∧ S.Hsh ((w1.alloc (.cells (S.byts (List.replicate 32 0)).toArray t)).setCells w1.heap.size 0 M) w1.heap.size N ∧ w.heap.size ≤ w1.heap.size) := fun t => ⟨hb.trans ((NW t).2.1.mono hb.size), (NW t).2.2, hb.size⟩
  rw [zerosZ] at th FF
  clear NW hb
  go_wp2_with ((refine wpList_store_mid rfl 25 _ _ rfl w1.heap.size 0 M.toArray rfl rfl (th _) (by rw [sz]; kernel_rfl) oc ?_); (refine wpList_world (fun W => Below w.heap.size w W ∧ S.Hsh W w1.heap.size N ∧ w.heap.size ≤ w1.heap.size) (FF.out _) ?_); clear FF th sz oc; rintro W HW)
  refine bodyPost_ret (v := .slice (some ⟨w1.heap.size, 0, none⟩) 32 32) ?_ rfl ⟨w1.heap.size, rfl, HW.2.1, HW.2.2, HW.1⟩
  simp [results, Tryz.results95]
end Go.Proofs.YtncpjgpioajbeaaGreatDoor

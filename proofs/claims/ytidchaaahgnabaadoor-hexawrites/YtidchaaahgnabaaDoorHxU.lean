import Derived.Test.YtidchaaahgnabaaDoorHxT
import Derived.Test.YtidchaaahgnabaaDoorKRSums
/- Layer 8: the document's Checksum. -/
namespace Go.Proofs.YtidchaaahgnabaaDoor
open Go.RowKit Go.Sort
theorem dig_kec (l : List UInt8) : digV 0 (bvL l) = .agg ((kecL l).map (Value.int .u8)).toArray := by
  rw [digV, kecL, bvL_len, List.map_map]
  rfl
theorem fst_one : Y (fstB 0) = 1 := by
  rw [Y_eq]
  rfl
set_option maxRecDepth 100000 in
theorem rof_any {l : List UInt8} {g c : Nat} (hl : l.length < 1073741824) (w : World) (hx : ∀ i, i < l.length → w.cell? ⟨g, i, none⟩ = some (.int .u8 ((l.getD i 0).toNat : Int))) (ht : Tab w 3 turnsN) (hm : Lns w 0 marksN) :
    Calls Tryd.prog 41 #[.slice (some ⟨g, 0, none⟩) l.length c] w fun e w' => e = .returned (.agg ((kecL l).map (Value.int .u8)).toArray) ∧ Below w.heap.size w w' := by
  obtain ⟨N, eN⟩ : ∃ N, Hid (N = (kecL l).map (Value.int .u8)) := ⟨_, rfl⟩
  have DG : Hid (∀ W, Below w.heap.size w W → Calls Tryd.prog 54 #[.slice (some ⟨g, 0, none⟩) l.length c, .int .u8 1] W fun e w' => e = .returned (.agg N.toArray) ∧ Below W.heap.size W w') := fun W B => by
    have h := rdigest_any (a := some ⟨g, 0, none⟩) (bd := g) (od := 0) (cd := c) (X := bvL l) (n := 1) 0 fst_one (by rw [bvL_len]; exact hl) (.inr rfl) (fun e => by cases e) W (fun i hi => by
      rw [bvL_len] at hi
      rw [bvL_Y l hi, Nat.zero_add]; exact cellK B (hx i hi)) (ht.keep B) (hm.keep B)
    rw [bvL_len, dig_kec, ← eN.out] at h
    exact h
  rw [← eN.out]
  have LN : N.length = 32 := by rw [eN.out, List.length_map, kecL_len]
  have lN : (Tryd.prog.info? 36).map (·.size) = some N.length := by rw [LN]; kernel_rfl
  have oN : N.toArray.all (·.oneCell') = true := by rw [eN.out]; exact one_u8 _
  clear hx ht hm hl
  go_enter Tryd.func41, Tryd.ntmps41
  go_wp2_with fail
  refine calls_world (fun W => Below w.heap.size w W ∧ Cz W w.heap.size (List.replicate 32 (0 : Int))) ⟨(Below.refl _ _).alloc (Nat.le_refl _) _, Cz.new rfl⟩ ?_
  rintro W ⟨B, hR⟩
  with_reducible refine (DG.out W B).mono ?_
  rintro e w1 ⟨rfl, hb⟩
  replace B := B.trans (hb.mono B.size)
  replace hR := hR.keep hb
  have tr : w1.there w.heap.size 0 N.toArray.size := by simpa [LN] using hR.there
  have lN2 : (Tryd.prog.info? 36).map (·.size) = some N.toArray.size := by simpa using lN
  clear hR hb DG W
  go_wp2_with ((refine wpList_store_mid rfl 36 _ _ rfl w.heap.size 0 N.toArray rfl rfl tr lN2 oN ?_); (refine wpListH (fun W' => Below w.heap.size w W' ∧ W'.rangeAt w.heap.size 0 N) (laidH B (Nat.le_refl _) (by simpa using tr)) ?_); rintro W' ⟨B', hD⟩)
  have ld := run_loadVar_mid (P := Tryd.prog) W' w.heap.size 0 36 N _ hD Tryd.underlying36 rfl lN
  refine bodyPost_ret (v := .agg N.toArray) ?_ rfl ⟨rfl, B'⟩
  simp [results, Tryd.results41, asAddr, Act.put, ld]
end Go.Proofs.YtidchaaahgnabaaDoor

import Derived.Test.YtfpiopjlcjckeaaDoorFLaws
import Derived.Test.YtfpiopjlcjckeaaDoorFFermat
import Derived.Test.YtfpiopjlcjckeaaDoorFOpen3
namespace Go.Proofs.YtfpiopjlcjckeaaDoor
open Go.RowKit Go.Sort

theorem below_cmp {n m : Int} (h : n < m) : cmpN n m = -1 := by
  unfold cmpN; rw [if_neg (by omega), if_pos h]

theorem flaws_any {v a y z : Int} (ha : Num a) (hy : Num y) (hz : Num z) (w : World) (hm : Mds w) :
    Calls Tryd.prog 5 #[.int .i64 v, .agg #[.int .u64 (l0 a), .int .u64 (l1 a), .int .u64 (l2 a), .int .u64 (l3 a), .int .u64 (l0 y), .int .u64 (l1 y), .int .u64 (l2 y), .int .u64 (l3 y), .int .u64 (l0 z), .int .u64 (l1 z), .int .u64 (l2 z), .int .u64 (l3 z)]] w fun e w' => e = .returned (.bool true) ∧ Below w.heap.size w w' := by
  obtain ⟨k, m, c, K, hk⟩ := fkind_kind v
  have hf := K.fit
  have n0 : Num 0 := ⟨by decide, by decide⟩
  have n1 : Num 1 := ⟨by decide, by decide⟩
  have nx := modN_Num hf a
  obtain ⟨z0, z1, z2, z3⟩ := zero_limbs
  refine flaws_walk (x := (modN m a)) (ra := (modN m (modN m a + y))) (rm := (modN m (modN m a * y))) (rt := (modN m (modN m a + y + z))) (ru := (modN m (y + z))) (rp := (modN m (modN m a * y * z))) (rq := (modN m (y * z))) (rr := (modN m (modN m a * (y + z)))) (rv := (modN m (modN m a * z))) (rd := (modN m (modN m a - y))) (rn := (modN m (0 - y))) (rs := (modN m (modN m a * modN m a))) hk (fun w h => Modulus_good K w h)
    (fun w h => by have := Reduce_good K n0 ha w h; rw [wide_zero, z0, z1, z2, z3] at this; exact this) (from_any ⟨by decide, by decide⟩)
    (fun w => by have := cmp_any (n := (modN m a)) (m := m) (nx) hf.num w; rw [show cmpN (modN m a) m = -1 from below_cmp (modN_lt hf _).2] at this; exact this) (fun w => by have := cmp_any (n := (modN m (y * z))) (m := m) (modN_Num hf _) hf.num w; rw [show cmpN (modN m (y * z)) m = -1 from below_cmp (modN_lt hf _).2] at this; exact this) (fun w => by have := cmp_any (n := (modN m (modN m a - y))) (m := m) (modN_Num hf _) hf.num w; rw [show cmpN (modN m (modN m a - y)) m = -1 from below_cmp (modN_lt hf _).2] at this; exact this) (fun w => by have := cmp_any (n := (modN m (0 - y))) (m := m) (modN_Num hf _) hf.num w; rw [show cmpN (modN m (0 - y)) m = -1 from below_cmp (modN_lt hf _).2] at this; exact this)
    (fun w h => Sub_good K nx hy w h) (fun w h => Neg_good K hy w h) (fun w h => Square_good K nx w h)
    (fun w b h hs => sadd_any (x := (modN m a)) (y := y) (b := b) K nx hy w h hs)
    (fun w b h hs => by have := sadd_any (x := y) (y := (modN m a)) (b := b) K hy nx w h hs; rw [show modN m (y + (modN m a)) = (modN m (modN m a + y)) from by rw [Int.add_comm]] at this; exact this)
    (fun w b h hs => smul_any (x := (modN m a)) (y := y) (b := b) K nx hy w h hs)
    (fun w b h hs => by have := smul_any (x := y) (y := (modN m a)) (b := b) K hy nx w h hs; rw [show modN m (y * (modN m a)) = (modN m (modN m a * y)) from by rw [Int.mul_comm]] at this; exact this)
    (fun w b h hs => by have := sadd_any (x := (modN m (modN m a + y))) (y := z) (b := b) K (modN_Num hf _) hz w h hs; rw [show modN m ((modN m (modN m a + y)) + z) = (modN m (modN m a + y + z)) from by rw [modN_add_l]] at this; exact this)
    (fun w b h hs => sadd_any (x := y) (y := z) (b := b) K hy hz w h hs)
    (fun w b h hs => by have := sadd_any (x := (modN m a)) (y := (modN m (y + z))) (b := b) K nx (modN_Num hf _) w h hs; rw [show modN m ((modN m a) + (modN m (y + z))) = (modN m (modN m a + y + z)) from by rw [modN_add_r, Int.add_assoc]] at this; exact this)
    (fun w b h hs => by have := smul_any (x := (modN m (modN m a * y))) (y := z) (b := b) K (modN_Num hf _) hz w h hs; rw [show modN m ((modN m (modN m a * y)) * z) = (modN m (modN m a * y * z)) from by rw [modN_mul_l]] at this; exact this)
    (fun w b h hs => smul_any (x := y) (y := z) (b := b) K hy hz w h hs)
    (fun w b h hs => by have := smul_any (x := (modN m a)) (y := (modN m (y * z))) (b := b) K nx (modN_Num hf _) w h hs; rw [show modN m ((modN m a) * (modN m (y * z))) = (modN m (modN m a * y * z)) from by rw [modN_mul_r, Int.mul_assoc]] at this; exact this)
    (fun w b h hs => by have := smul_any (x := (modN m a)) (y := (modN m (y + z))) (b := b) K nx (modN_Num hf _) w h hs; rw [show modN m ((modN m a) * (modN m (y + z))) = (modN m (modN m a * (y + z))) from by rw [modN_mul_r]] at this; exact this)
    (fun w b h hs => smul_any (x := (modN m a)) (y := z) (b := b) K nx hz w h hs)
    (fun w b h hs => by have := sadd_any (x := (modN m (modN m a * y))) (y := (modN m (modN m a * z))) (b := b) K (modN_Num hf _) (modN_Num hf _) w h hs; rw [show modN m ((modN m (modN m a * y)) + (modN m (modN m a * z))) = (modN m (modN m a * (y + z))) from by rw [modN_add_l, modN_add_r, Int.mul_add]] at this; exact this)
    (fun w b h hs => by have := sadd_any (b := b) K nx n0 w h hs; rw [Int.add_zero, modN_mod, z0, z1, z2, z3] at this; exact this)
    (fun w b h hs => by have := smul_any (b := b) K nx n1 w h hs; rw [Int.mul_one, modN_mod] at this; exact this)
    (fun w b h hs => by have := smul_any (b := b) K nx n0 w h hs; rw [Int.mul_zero, show modN m 0 = 0 by unfold modN; simp, z0, z1, z2, z3] at this; exact this)
    (fun w b h hs => by have := sadd_any (x := (modN m (modN m a - y))) (y := y) (b := b) K (modN_Num hf _) hy w h hs; rw [show modN m ((modN m (modN m a - y)) + y) = (modN m a) from by rw [modN_add_l, Int.sub_add_cancel, modN_mod]] at this; exact this)
    (fun w b h hs => by have := sadd_any (x := (modN m a)) (y := (modN m (0 - y))) (b := b) K nx (modN_Num hf _) w h hs; rw [show modN m ((modN m a) + (modN m (0 - y))) = (modN m (modN m a - y)) from by rw [modN_add_r, show modN m a + (0 - y) = modN m a - y by omega]] at this; exact this)
    (fun w b h hs => smul_any (x := (modN m a)) (y := (modN m a)) (b := b) K nx nx w h hs)
    (fun w => eq_no hf.num n1 (by have := hf.low; omega) w) w hm
end Go.Proofs.YtfpiopjlcjckeaaDoor

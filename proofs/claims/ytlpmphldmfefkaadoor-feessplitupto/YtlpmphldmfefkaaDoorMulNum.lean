import Derived.Test.YtlpmphldmfefkaaDoorNum
/- The school's product of two numbers of four limbs. -/
namespace Go.Proofs.YtlpmphldmfefkaaDoor

theorem mul_num_right (x y0 y1 y2 y3 : Int) : x * num y0 y1 y2 y3 = num (x * y0) (x * y1) (x * y2) (x * y3) := by
  unfold num
  rw [Int.mul_add, Int.mul_add, Int.mul_add, Int.mul_left_comm x _ y1, Int.mul_left_comm x _ y2, Int.mul_left_comm x _ y3]
theorem mul_num_left (x0 x1 x2 x3 y : Int) : num x0 x1 x2 x3 * y = num (x0 * y) (x1 * y) (x2 * y) (x3 * y) := by
  rw [Int.mul_comm, mul_num_right, Int.mul_comm y, Int.mul_comm y, Int.mul_comm y, Int.mul_comm y]

/-- One row: x times y, added to what lies there. -/
theorem mul_row {x y0 y1 y2 y3 a0 a1 a2 a3 p0 p1 p2 p3 c0 c1 c2 c3 : Int}
    (e0 : p0 + 18446744073709551616 * c0 = x * y0 + a0 + 0) (e1 : p1 + 18446744073709551616 * c1 = x * y1 + a1 + c0)
    (e2 : p2 + 18446744073709551616 * c2 = x * y2 + a2 + c1) (e3 : p3 + 18446744073709551616 * c3 = x * y3 + a3 + c2) :
    num p0 p1 p2 p3 + 115792089237316195423570985008687907853269984665640564039457584007913129639936 * c3 = num a0 a1 a2 a3 + x * num y0 y1 y2 y3 := by
  rw [mul_num_right]
  unfold num
  generalize x * y0 = z0 at *; generalize x * y1 = z1 at *; generalize x * y2 = z2 at *; generalize x * y3 = z3 at *
  omega

/-- Four rows. -/
theorem mul_rows {x0 x1 x2 x3 Y : Int} {p00 p01 p02 p03 c03 p10 p11 p12 p13 c13 p20 p21 p22 p23 c23 p30 p31 p32 p33 c33 : Int}
    (r0 : num p00 p01 p02 p03 + 115792089237316195423570985008687907853269984665640564039457584007913129639936 * c03 = num 0 0 0 0 + x0 * Y)
    (r1 : num p10 p11 p12 p13 + 115792089237316195423570985008687907853269984665640564039457584007913129639936 * c13 = num p01 p02 p03 c03 + x1 * Y)
    (r2 : num p20 p21 p22 p23 + 115792089237316195423570985008687907853269984665640564039457584007913129639936 * c23 = num p11 p12 p13 c13 + x2 * Y)
    (r3 : num p30 p31 p32 p33 + 115792089237316195423570985008687907853269984665640564039457584007913129639936 * c33 = num p21 p22 p23 c23 + x3 * Y) :
    num p00 p10 p20 p30 + 115792089237316195423570985008687907853269984665640564039457584007913129639936 * num p31 p32 p33 c33 = num x0 x1 x2 x3 * Y := by
  rw [mul_num_left]
  generalize x0 * Y = z0 at *; generalize x1 * Y = z1 at *; generalize x2 * Y = z2 at *; generalize x3 * Y = z3 at *
  unfold num at *
  omega

/-- A number below 2^512, by its halves. -/
theorem halves {n m h l : Int} (hl : Num l) (e : l + 115792089237316195423570985008687907853269984665640564039457584007913129639936 * h = n * m) : hiN n m = h ∧ loN n m = l := by
  obtain ⟨_, _⟩ := hl
  unfold hiN loN
  generalize n * m = p at *
  omega

end Go.Proofs.YtlpmphldmfefkaaDoor

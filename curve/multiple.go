package curve

import "waybill/api"

// Mul tells k times p.
func Mul(k api.U256, p api.Point) (api.Point, api.Errno) { return MulAdd(api.U256{}, k, p) }

// MulG tells k times the base point.
func MulG(k api.U256) api.Point {
	return blend(k, api.U256{}, api.Point{Identity: true}).point()
}

// MulAdd tells a times the base point plus b times q.
func MulAdd(a, b api.U256, q api.Point) (api.Point, api.Errno) {
	if !On(q) {
		return api.Point{}, api.ErrCurvePoint
	}
	return blend(a, b, q).point(), api.OK
}

// blend tells a times G and b times q, added, with the same doublings for both. What is added when i doublings are left counts 2^i times: of b a digit of four bits, times q; of a, when at most 63 are left, the bits i of its four limbs, which is a sum in the table.
func blend(a, b api.U256, q api.Point) triple {
	few := multiples(q)
	var sum triple
	for i := 255; i >= 0; i-- {
		sum = sum.double()
		if i%4 == 0 {
			sum = sum.add(few[digit(b, i)])
		}
		if i < 64 {
			sum = sum.add(widen(columns[column(a, i)]))
		}
	}
	return sum
}

// multiples tells 0 to 15 times q.
func multiples(q api.Point) [16]triple {
	var few [16]triple
	for i := 1; i < len(few); i++ {
		few[i] = few[i-1].add(widen(q))
	}
	return few
}

// digit tells the four bits of k from bit i on.
func digit(k api.U256, i int) uint64 { return k[i/64] >> (i % 64) & 15 }

// column tells the bits i of the four limbs of k, that of the lowest limb as the lowest bit.
func column(k api.U256, i int) uint64 {
	var bits uint64
	for j, limb := range k {
		bits |= (limb >> i & 1) << j
	}
	return bits
}

package curve

import (
	"waybill/api"
	"waybill/field"
	"waybill/u256"
)

// All reckoning is modulo p: field refuses other kinds alone, so its errors tell nothing here.

func plus(x, y api.U256) api.U256 {
	sum, _ := field.Add(api.FieldP, x, y)
	return sum
}

func minus(x, y api.U256) api.U256 {
	rest, _ := field.Sub(api.FieldP, x, y)
	return rest
}

func times(x, y api.U256) api.U256 {
	product, _ := field.Mul(api.FieldP, x, y)
	return product
}

func square(x api.U256) api.U256 { return times(x, x) }

func twice(x api.U256) api.U256 { return plus(x, x) }

func opposite(x api.U256) api.U256 { return minus(api.U256{}, x) }

// squareAt tells x * x * x + 7: the square of the y that stands at x.
func squareAt(x api.U256) api.U256 { return plus(times(square(x), x), u256.From(7)) }

// isBelowP tells whether x may be a coordinate: x and x + p are one number to field, but not to the curve.
func isBelowP(x api.U256) bool {
	p, _ := field.Modulus(api.FieldP)
	return u256.Cmp(x, p) < 0
}

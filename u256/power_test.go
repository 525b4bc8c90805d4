package u256_test

import (
	"math/big"
	"testing"

	"waybill/api"
	"waybill/chance"
	"waybill/u256"
)

// P1.8
func TestExp(t *testing.T) {
	check := func(x, y api.U256) {
		if got := u256.Exp(x, y); got != narrow(new(big.Int).Exp(wide(x), wide(y), bigW)) {
			t.Errorf("Exp(%v, %v) = %v", x, y, got)
		}
	}
	for _, x := range sample() {
		for _, y := range sample() {
			check(x, y)
		}
	}
	row := chance.Row(8)
	for range 1000 {
		check(row.Number(), row.Number())
	}
}

// P1.8: the document's examples, and the power 0 of every number.
func TestExpExamples(t *testing.T) {
	for _, c := range []struct{ x, y, want api.U256 }{
		{num(2), num(255), api.U256{0, 0, 0, high}},
		{num(2), num(256), zero},
		{num(3), num(5), num(243)},
		{zero, one, zero},
		{zero, top, zero},
		{one, top, one},
		{top, one, top},
		{top, num(2), one},
		{top, top, top},
		{num(3), api.U256{0, 0, 0, high}, one}, // the order of 3 is 2^254
	} {
		if got := u256.Exp(c.x, c.y); got != c.want {
			t.Errorf("Exp(%v, %v) = %v", c.x, c.y, got)
		}
	}
	for _, x := range edges() {
		if got := u256.Exp(x, zero); got != one {
			t.Errorf("Exp(%v, 0) = %v", x, got)
		}
	}
}

// P1.9
func TestRoot(t *testing.T) {
	check := func(x api.U256) {
		if got := u256.Root(x); got != narrow(new(big.Int).Sqrt(wide(x))) {
			t.Errorf("Root(%v) = %v", x, got)
		}
	}
	for v := range uint64(1100) {
		check(num(v))
	}
	for i := range 256 {
		p := narrow(new(big.Int).Lsh(big.NewInt(1), uint(i)))
		below, _ := u256.Sub(p, one)
		above, _ := u256.Add(p, one)
		check(below)
		check(p)
		check(above)
	}
	for _, x := range edges() {
		check(x)
	}
	row := chance.Row(9)
	for range 5000 {
		check(row.Number())
	}
}

// P1.9: each side of a square; the document's examples.
func TestRootSquares(t *testing.T) {
	row := chance.Row(10)
	for range 5000 {
		x := row.Number()
		x[2], x[3] = 0, 0
		if x == zero {
			continue
		}
		_, square := u256.Mul(x, x)
		below, _ := u256.Sub(square, one)
		less, _ := u256.Sub(x, one)
		if u256.Root(square) != x || u256.Root(below) != less {
			t.Errorf("Root beside the square of %v: %v, %v", x, u256.Root(below), u256.Root(square))
		}
	}
	for _, c := range []struct{ x, want api.U256 }{{zero, zero}, {one, one}, {num(15), num(3)}, {num(16), num(4)}, {top, api.U256{most, most}}} {
		if got := u256.Root(c.x); got != c.want {
			t.Errorf("Root(%v) = %v", c.x, got)
		}
	}
}

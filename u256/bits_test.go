package u256_test

import (
	"math"
	"math/big"
	"testing"

	"waybill/api"
	"waybill/u256"
)

// P1.11: And, Or, Xor, Not
func TestLogic(t *testing.T) {
	checkPairs(t, func(t *testing.T, x, y api.U256) {
		a, b := wide(x), wide(y)
		switch {
		case u256.And(x, y) != narrow(new(big.Int).And(a, b)):
			t.Errorf("And(%v, %v) = %v", x, y, u256.And(x, y))
		case u256.Or(x, y) != narrow(new(big.Int).Or(a, b)):
			t.Errorf("Or(%v, %v) = %v", x, y, u256.Or(x, y))
		case u256.Xor(x, y) != narrow(new(big.Int).Xor(a, b)):
			t.Errorf("Xor(%v, %v) = %v", x, y, u256.Xor(x, y))
		case u256.Not(x) != narrow(new(big.Int).Not(a)):
			t.Errorf("Not(%v) = %v", x, u256.Not(x))
		}
	})
}

// moved tells what Shl must: x, up by n places, or down, if n is below 0.
func moved(x api.U256, n int) api.U256 {
	switch {
	case n >= 256 || n <= -256:
		return zero
	case n < 0:
		return narrow(new(big.Int).Rsh(wide(x), uint(-n)))
	}
	return narrow(new(big.Int).Lsh(wide(x), uint(n)))
}

// P1.11: Shl, Shr at every number of places, and far outside.
func TestShifts(t *testing.T) {
	numbers := []api.U256{zero, one, num(6), {0, 1}, {0x0123456789abcdef, 0xfedcba9876543210, 0x0f1e2d3c4b5a6978, 0x8796a5b4c3d2e1f0}, {0, 0, 0, high}, top}
	for _, x := range numbers {
		for n := -260; n <= 260; n++ {
			if got := u256.Shl(x, n); got != moved(x, n) {
				t.Errorf("Shl(%v, %d) = %v", x, n, got)
			}
			if got := u256.Shr(x, n); got != moved(x, -n) {
				t.Errorf("Shr(%v, %d) = %v", x, n, got)
			}
		}
		for _, n := range []int{math.MinInt, math.MinInt + 1, math.MinInt + 64, -1 << 20, -512, 512, 1 << 20, math.MaxInt - 63, math.MaxInt} {
			if a, b := u256.Shl(x, n), u256.Shr(x, n); a != zero || b != zero {
				t.Errorf("%v by %d places: %v, %v", x, n, a, b)
			}
		}
	}
}

// P1.11: the document's examples.
func TestShiftExamples(t *testing.T) {
	for _, c := range []struct {
		name      string
		got, want api.U256
	}{
		{"Shl(1, 64)", u256.Shl(one, 64), api.U256{0, 1}},
		{"Shr(2^64, 65)", u256.Shr(api.U256{0, 1}, 65), zero},
		{"Shl(6, -1)", u256.Shl(num(6), -1), num(3)},
		{"Shr(6, -1)", u256.Shr(num(6), -1), num(12)},
		{"Shl(1, 255)", u256.Shl(one, 255), api.U256{0, 0, 0, high}},
		{"Shl(1, 256)", u256.Shl(one, 256), zero},
		{"Shr(W - 1, least)", u256.Shr(top, math.MinInt), zero},
	} {
		if c.got != c.want {
			t.Errorf("%s = %v", c.name, c.got)
		}
	}
}

// P1.11: Bit
func TestBit(t *testing.T) {
	numbers := append(sample(), num(8))
	for _, x := range numbers {
		for i := range 256 {
			if got := u256.Bit(x, i); got != int(wide(x).Bit(i)) {
				t.Errorf("Bit(%v, %d) = %d", x, i, got)
			}
		}
	}
	for _, i := range []int{math.MinInt, -256, -64, -1, 256, 257, 320, math.MaxInt} {
		if got := u256.Bit(top, i); got != 0 {
			t.Errorf("Bit(W - 1, %d) = %d", i, got)
		}
	}
}

// P1.11: Len
func TestLen(t *testing.T) {
	for _, x := range edges() {
		if got := u256.Len(x); got != wide(x).BitLen() {
			t.Errorf("Len(%v) = %d", x, got)
		}
	}
	for i := range 256 {
		p := moved(one, i)
		below, _ := u256.Sub(p, one)
		if u256.Len(p) != i+1 || u256.Len(below) != i {
			t.Errorf("Len(2^%d) = %d, of one less: %d", i, u256.Len(p), u256.Len(below))
		}
	}
	if u256.Len(zero) != 0 || u256.Len(num(8)) != 4 || u256.Len(top) != 256 {
		t.Error("Len: the document's examples")
	}
}

package u256_test

import (
	"math/big"
	"testing"

	"waybill/api"
	"waybill/u256"
)

// P1.1
func TestFromSmall(t *testing.T) {
	for _, v := range []uint64{0, 1, 7, high, most - 1, most} {
		x := u256.From(v)
		if x != (api.U256{v, 0, 0, 0}) {
			t.Errorf("From(%d) = %v", v, x)
		}
		if got, e := u256.Small(x); got != v || e != api.OK {
			t.Errorf("Small(%d) = %d, %d", v, got, e)
		}
	}
	for _, x := range []api.U256{{0, 1}, {7, 1}, {0, 0, 1}, {7, 0, 1}, {0, 0, 0, 1}, {7, 0, 0, high}, top} {
		if got, e := u256.Small(x); got != 0 || e != api.ErrNumLong {
			t.Errorf("Small(%v) = %d, %d", x, got, e)
		}
	}
}

// P1.2
func TestAddSub(t *testing.T) {
	checkPairs(t, func(t *testing.T, x, y api.U256) {
		sum, carry := u256.Add(x, y)
		if carry > 1 || join(num(carry), sum).Cmp(new(big.Int).Add(wide(x), wide(y))) != 0 {
			t.Errorf("Add(%v, %v) = %v, %d", x, y, sum, carry)
		}
		diff, borrow := u256.Sub(x, y)
		want := new(big.Int).Sub(wide(x), wide(y))
		if borrow > 1 || want.Add(want, join(num(borrow), zero)).Cmp(wide(diff)) != 0 {
			t.Errorf("Sub(%v, %v) = %v, %d", x, y, diff, borrow)
		}
	})
}

// P1.2: the document's example, and carries and borrows that end in each limb.
func TestCarries(t *testing.T) {
	for _, c := range []struct {
		x, sum api.U256
		carry  uint64
	}{
		{zero, one, 0},
		{api.U256{most}, api.U256{0, 1}, 0},
		{api.U256{most, most}, api.U256{0, 0, 1}, 0},
		{api.U256{most, most, most}, api.U256{0, 0, 0, 1}, 0},
		{top, zero, 1},
	} {
		if sum, carry := u256.Add(c.x, one); sum != c.sum || carry != c.carry {
			t.Errorf("Add(%v, 1) = %v, %d", c.x, sum, carry)
		}
		if diff, borrow := u256.Sub(c.sum, one); diff != c.x || borrow != c.carry {
			t.Errorf("Sub(%v, 1) = %v, %d", c.sum, diff, borrow)
		}
	}
}

// P1.3
func TestMul(t *testing.T) {
	checkPairs(t, func(t *testing.T, x, y api.U256) {
		h, l := u256.Mul(x, y)
		if join(h, l).Cmp(new(big.Int).Mul(wide(x), wide(y))) != 0 {
			t.Errorf("Mul(%v, %v) = %v, %v", x, y, h, l)
		}
	})
	if h, l := u256.Mul(top, top); h != (api.U256{most - 1, most, most, most}) || l != one {
		t.Errorf("Mul(W - 1, W - 1) = %v, %v", h, l)
	}
	if h, l := u256.Mul(api.U256{0, 0, 0, high}, num(2)); h != one || l != zero {
		t.Errorf("Mul(2^255, 2) = %v, %v", h, l)
	}
}

// P1.10
func TestCmp(t *testing.T) {
	checkPairs(t, func(t *testing.T, x, y api.U256) {
		if got := u256.Cmp(x, y); got != wide(x).Cmp(wide(y)) {
			t.Errorf("Cmp(%v, %v) = %d", x, y, got)
		}
	})
	for _, x := range edges() {
		if u256.Cmp(x, x) != 0 {
			t.Errorf("Cmp(%v, the same) is not 0", x)
		}
	}
	if u256.Cmp(zero, top) != -1 || u256.Cmp(top, zero) != 1 || u256.Cmp(api.U256{most, 0, 0, 1}, api.U256{0, 0, 0, 2}) != -1 {
		t.Error("Cmp: the highest limb counts first")
	}
}

// What follows: the laws of Add and Mul, modulo W.
func TestLaws(t *testing.T) {
	add := func(x, y api.U256) api.U256 { s, _ := u256.Add(x, y); return s }
	mul := func(x, y api.U256) api.U256 { _, l := u256.Mul(x, y); return l }
	checkTriples(t, func(t *testing.T, x, y, z api.U256) {
		switch {
		case add(x, y) != add(y, x), mul(x, y) != mul(y, x):
			t.Errorf("not commutative: %v, %v", x, y)
		case add(add(x, y), z) != add(x, add(y, z)), mul(mul(x, y), z) != mul(x, mul(y, z)):
			t.Errorf("not associative: %v, %v, %v", x, y, z)
		case mul(x, add(y, z)) != add(mul(x, y), mul(x, z)):
			t.Errorf("not distributive: %v, %v, %v", x, y, z)
		}
	})
}

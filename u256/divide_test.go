package u256_test

import (
	"math/big"
	"testing"

	"waybill/api"
	"waybill/chance"
	"waybill/u256"
)

// P1.4
func TestDivMod(t *testing.T) {
	checkPairs(t, func(t *testing.T, x, y api.U256) {
		q, r, e := u256.DivMod(x, y)
		if y == zero {
			if q != zero || r != zero || e != api.ErrNumZero {
				t.Errorf("DivMod(%v, 0) = %v, %v, %d", x, q, r, e)
			}
			return
		}
		wantQ, wantR := new(big.Int).QuoRem(wide(x), wide(y), new(big.Int))
		if q != narrow(wantQ) || r != narrow(wantR) || e != api.OK {
			t.Errorf("DivMod(%v, %v) = %v, %v, %d", x, y, q, r, e)
		}
	})
}

// P1.4: the document's example.
func TestDivModExamples(t *testing.T) {
	half := api.U256{0, 0, 1}
	for _, c := range []struct {
		x, y, q, r api.U256
		e          api.Errno
	}{
		{num(7), num(2), num(3), num(1), api.OK},
		{num(7), zero, zero, zero, api.ErrNumZero},
		{zero, zero, zero, zero, api.ErrNumZero},
		{zero, num(7), zero, zero, api.OK},
		{top, half, api.U256{most, most}, api.U256{most, most}, api.OK},
		{top, one, top, zero, api.OK},
		{top, top, one, zero, api.OK},
		{num(7), top, zero, num(7), api.OK},
	} {
		if q, r, e := u256.DivMod(c.x, c.y); q != c.q || r != c.r || e != c.e {
			t.Errorf("DivMod(%v, %v) = %v, %v, %d", c.x, c.y, q, r, e)
		}
	}
}

// checkMod holds f against the rest that math/big tells of the number that whole makes.
func checkMod(t *testing.T, name string, f func(x, y, m api.U256) (api.U256, api.Errno), whole func(x, y api.U256) *big.Int) {
	t.Helper()
	checkTriples(t, func(t *testing.T, x, y, m api.U256) {
		got, e := f(x, y, m)
		if m == zero {
			if got != zero || e != api.ErrNumZero {
				t.Errorf("%s(%v, %v, 0) = %v, %d", name, x, y, got, e)
			}
			return
		}
		if got != narrow(new(big.Int).Mod(whole(x, y), wide(m))) || e != api.OK {
			t.Errorf("%s(%v, %v, %v) = %v, %d", name, x, y, m, got, e)
		}
	})
}

// P1.5
func TestReduce(t *testing.T) {
	checkMod(t, "Reduce", u256.Reduce, join)
}

// P1.5: dividends near a multiple of the divisor, of every length: a digit of the quotient is then guessed too high by 1 and by 2.
func TestReduceNearMultiples(t *testing.T) {
	row := chance.Row(5)
	for range 40000 {
		m := row.Number()
		if m == zero {
			continue
		}
		q := row.Number()
		h, l := u256.Mul(q, m)
		if l == zero {
			continue
		}
		below, _ := u256.Sub(l, one)
		want, _ := u256.Sub(m, one)
		if r, e := u256.Reduce(h, l, m); r != zero || e != api.OK {
			t.Errorf("Reduce(%v, %v, %v) = %v, %d", h, l, m, r, e)
		}
		if r, e := u256.Reduce(h, below, m); r != want || e != api.OK {
			t.Errorf("Reduce(%v, %v, %v) = %v, %d", h, below, m, r, e)
		}
	}
}

// P1.6
func TestMulDiv(t *testing.T) {
	checkTriples(t, func(t *testing.T, x, y, m api.U256) {
		got, e := u256.MulDiv(x, y, m)
		want, wantE := zero, api.ErrNumZero
		if m != zero {
			whole := new(big.Int).Mul(wide(x), wide(y))
			whole.Quo(whole, wide(m))
			want, wantE = narrow(whole), api.OK
			if whole.Cmp(bigW) >= 0 {
				want, wantE = zero, api.ErrNumLong
			}
		}
		if got != want || e != wantE {
			t.Errorf("MulDiv(%v, %v, %v) = %v, %d, want %v, %d", x, y, m, got, e, want, wantE)
		}
	})
}

// P1.7
func TestAddMod(t *testing.T) {
	checkMod(t, "AddMod", u256.AddMod, func(x, y api.U256) *big.Int { return new(big.Int).Add(wide(x), wide(y)) })
}

// P1.7
func TestMulMod(t *testing.T) {
	checkMod(t, "MulMod", u256.MulMod, func(x, y api.U256) *big.Int { return new(big.Int).Mul(wide(x), wide(y)) })
}

// P1.5 to P1.7: the document's examples, a product of 512 bits, a sum of 257 bits, quotients just below W and just W.
func TestModExamples(t *testing.T) {
	for _, c := range []struct {
		name    string
		f       func(x, y, m api.U256) (api.U256, api.Errno)
		x, y, m api.U256
		want    api.U256
		e       api.Errno
	}{
		{"Reduce", u256.Reduce, one, zero, num(10), num(6), api.OK},
		{"Reduce", u256.Reduce, num(5), num(7), top, num(12), api.OK},
		{"Reduce", u256.Reduce, one, one, zero, zero, api.ErrNumZero},
		{"Reduce", u256.Reduce, zero, zero, zero, zero, api.ErrNumZero},
		{"Reduce", u256.Reduce, top, top, one, zero, api.OK},
		{"MulDiv", u256.MulDiv, top, top, top, top, api.OK},
		{"MulDiv", u256.MulDiv, top, num(2), one, zero, api.ErrNumLong},
		{"MulDiv", u256.MulDiv, top, num(2), num(2), top, api.OK},
		{"MulDiv", u256.MulDiv, top, top, zero, zero, api.ErrNumZero},
		{"MulDiv", u256.MulDiv, top, top, api.U256{most - 1, most, most, most}, zero, api.ErrNumLong},
		{"MulDiv", u256.MulDiv, api.U256{0, 0, 0, high}, num(2), one, zero, api.ErrNumLong},
		{"MulDiv", u256.MulDiv, num(7), num(3), num(2), num(10), api.OK},
		{"AddMod", u256.AddMod, top, top, num(10), zero, api.OK},
		{"AddMod", u256.AddMod, top, top, top, zero, api.OK},
		{"AddMod", u256.AddMod, top, one, top, one, api.OK},
		{"AddMod", u256.AddMod, one, one, one, zero, api.OK},
		{"AddMod", u256.AddMod, one, one, zero, zero, api.ErrNumZero},
		{"MulMod", u256.MulMod, top, top, num(12), num(9), api.OK},
		{"MulMod", u256.MulMod, top, top, api.U256{most - 1, most, most, most}, one, api.OK},
		{"MulMod", u256.MulMod, one, one, zero, zero, api.ErrNumZero},
	} {
		if got, e := c.f(c.x, c.y, c.m); got != c.want || e != c.e {
			t.Errorf("%s(%v, %v, %v) = %v, %d, want %v, %d", c.name, c.x, c.y, c.m, got, e, c.want, c.e)
		}
	}
}

package field_test

import (
	"math/big"
	"testing"

	"waybill/api"
	"waybill/chance"
	"waybill/field"
)

// P4.1: Modulus
func TestModulus(t *testing.T) {
	for _, k := range kinds {
		if m, e := field.Modulus(k); wide(m).Cmp(modelModulus(k)) != 0 || e != api.OK {
			t.Errorf("Modulus(%d) = %x, %d", k, m, e)
		}
	}
	if api.FieldP != 0 || api.FieldN != 1 {
		t.Error("the kinds' numbers")
	}
}

func checkReduce(t *testing.T, k int, high, low api.U256) {
	t.Helper()
	whole := new(big.Int).Lsh(wide(high), 256)
	whole.Add(whole, wide(low))
	if got, e := field.Reduce(k, high, low); got != modulo(k, whole) || e != api.OK {
		t.Fatalf("Reduce(%d, %x, %x) = %x, %d, want %x", k, high, low, got, e, modulo(k, whole))
	}
}

// P4.1: Reduce, high parts of 2^256 - 1 among them.
func TestReduce(t *testing.T) {
	checkPairs(func(k int, x, y api.U256) { checkReduce(t, k, x, y) })
}

// P4.1: multiples of the modulus, and the numbers beside them: there a fold may carry once more.
func TestReduceNearMultiples(t *testing.T) {
	row := chance.Row(3)
	whole := new(big.Int).Lsh(big.NewInt(1), 256)
	check := func(k int, q api.U256) {
		for v := int64(-2); v <= 2; v++ {
			n := new(big.Int).Mul(wide(q), modelModulus(k))
			if n.Add(n, big.NewInt(v)); n.Sign() < 0 {
				continue
			}
			high, low := new(big.Int).QuoRem(n, whole, new(big.Int))
			checkReduce(t, k, narrow(high), narrow(low))
		}
	}
	for _, k := range kinds {
		for _, q := range edges() {
			check(k, q)
		}
		for range 3000 {
			check(k, row.Number())
		}
	}
}

// P4.2
func TestSumsAndProducts(t *testing.T) {
	for _, c := range []struct {
		name string
		f    func(k int, x, y api.U256) (api.U256, api.Errno)
		want func(n, x, y *big.Int) *big.Int
	}{
		{"Add", field.Add, (*big.Int).Add},
		{"Sub", field.Sub, (*big.Int).Sub},
		{"Mul", field.Mul, (*big.Int).Mul},
	} {
		checkPairs(func(k int, x, y api.U256) {
			want := modulo(k, c.want(new(big.Int), wide(x), wide(y)))
			if got, e := c.f(k, x, y); got != want || e != api.OK {
				t.Fatalf("%s(%d, %x, %x) = %x, %d, want %x", c.name, k, x, y, got, e, want)
			}
		})
	}
}

// P4.2
func TestNegSquare(t *testing.T) {
	checkEach(5000, func(k int, x api.U256) {
		n := wide(x)
		if got, e := field.Neg(k, x); got != modulo(k, new(big.Int).Neg(n)) || e != api.OK {
			t.Fatalf("Neg(%d, %x) = %x, %d", k, x, got, e)
		}
		if got, e := field.Square(k, x); got != modulo(k, new(big.Int).Mul(n, n)) || e != api.OK {
			t.Fatalf("Square(%d, %x) = %x, %d", k, x, got, e)
		}
	})
}

// answer: what a call of the chapter's examples answers, or must.
type answer struct {
	x api.U256
	e api.Errno
}

func told(x api.U256, e api.Errno) answer { return answer{x, e} }

func ok(x api.U256) answer { return answer{x, api.OK} }

// P4.1, P4.2: the chapter's examples 1 and 2.
func TestFieldExamples(t *testing.T) {
	p, n := api.FieldP, api.FieldN
	order, _ := new(big.Int).SetString("432420386565659656852420866394968145599", 10)
	for _, c := range []struct {
		name      string
		got, want answer
	}{
		{"Modulus(2)", told(field.Modulus(2)), answer{zero, api.ErrArg}},
		{"Reduce(p, 1, 0)", told(field.Reduce(p, one, zero)), ok(num(4294968273))},
		{"Reduce(p, 0, p + 5)", told(field.Reduce(p, zero, near(p, 5))), ok(num(5))},
		{"Reduce(n, 1, 0)", told(field.Reduce(n, one, zero)), ok(narrow(order))},
		{"Add(p, p - 1, 2)", told(field.Add(p, near(p, -1), num(2))), ok(one)},
		{"Sub(p, 0, 1)", told(field.Sub(p, zero, one)), ok(near(p, -1))},
		{"Neg(n, 0)", told(field.Neg(n, zero)), ok(zero)},
		{"Neg(n, n)", told(field.Neg(n, near(n, 0))), ok(zero)},
		{"Neg(n, 1)", told(field.Neg(n, one)), ok(near(n, -1))},
		{"Mul(p, p - 1, p - 1)", told(field.Mul(p, near(p, -1), near(p, -1))), ok(one)},
	} {
		if c.got != c.want {
			t.Errorf("%s = %x, %d", c.name, c.got.x, c.got.e)
		}
	}
}

// calls: every call that takes a kind, with arguments that are wrong in other ways too where there are such.
func calls(k int) map[string]answer {
	list, e := field.Inverses(k, make([]api.U256, api.MaxList+1))
	if list != nil {
		e = -1
	}
	short, shortE := field.Inverses(k, nil)
	if short != nil {
		shortE = -1
	}
	return map[string]answer{
		"Modulus":             told(field.Modulus(k)),
		"Reduce":              told(field.Reduce(k, one, top)),
		"Add":                 told(field.Add(k, one, one)),
		"Sub":                 told(field.Sub(k, one, zero)),
		"Mul":                 told(field.Mul(k, one, one)),
		"Neg":                 told(field.Neg(k, one)),
		"Square":              told(field.Square(k, one)),
		"Exp":                 told(field.Exp(k, one, one)),
		"Exp to 0":            told(field.Exp(k, zero, zero)),
		"Inverse":             told(field.Inverse(k, one)),
		"Inverse of 0":        told(field.Inverse(k, zero)),
		"Inverses of nothing": {zero, shortE},
		"Inverses":            {zero, e},
	}
}

// P4.1 to P4.5: a kind that is none of the two, ahead of all other errors; P0.2: nothing else is answered.
func TestKinds(t *testing.T) {
	for _, k := range none {
		for name, got := range calls(k) {
			if got.x != zero || got.e != api.ErrArg {
				t.Errorf("%s of the kind %d: %x, %d", name, k, got.x, got.e)
			}
		}
	}
}

// P4.2, what follows: the laws of a field, whatever the numbers.
func TestLaws(t *testing.T) {
	row := chance.Row(4)
	for _, k := range kinds {
		add := func(x, y api.U256) api.U256 { return told(field.Add(k, x, y)).x }
		mul := func(x, y api.U256) api.U256 { return told(field.Mul(k, x, y)).x }
		for range 2000 {
			x, y, z := row.Number(), row.Number(), row.Number()
			same := told(field.Reduce(k, zero, x)).x
			switch {
			case add(x, y) != add(y, x) || mul(x, y) != mul(y, x):
				t.Fatalf("the order counts: %x, %x", x, y)
			case add(add(x, y), z) != add(x, add(y, z)) || mul(mul(x, y), z) != mul(x, mul(y, z)):
				t.Fatalf("the grouping counts: %x, %x, %x", x, y, z)
			case mul(x, add(y, z)) != add(mul(x, y), mul(x, z)):
				t.Fatalf("not distributive: %x, %x, %x", x, y, z)
			case add(x, zero) != same || mul(x, one) != same || mul(x, zero) != zero:
				t.Fatalf("0 and 1: %x", x)
			case add(x, told(field.Neg(k, x)).x) != zero || told(field.Sub(k, x, y)).x != add(x, told(field.Neg(k, y)).x):
				t.Fatalf("the opposite: %x, %x", x, y)
			case told(field.Square(k, x)).x != mul(x, x):
				t.Fatalf("the square: %x", x)
			}
		}
	}
}

package u256_test

import (
	"math/big"
	"testing"

	"waybill/api"
	"waybill/chance"
	"waybill/u256"
)

const (
	most = 1<<64 - 1 // the greatest limb
	high = 1 << 63   // a limb's top bit
)

var (
	zero = api.U256{}
	one  = api.U256{1}
	top  = api.U256{most, most, most, most} // W - 1
	bigW = new(big.Int).Lsh(big.NewInt(1), 256)
)

func num(v uint64) api.U256 { return api.U256{v} }

// wide tells x for math/big, by its limbs and not by u256's own bytes.
func wide(x api.U256) *big.Int {
	n := new(big.Int)
	for i := 3; i >= 0; i-- {
		n.Lsh(n, 64)
		n.Or(n, new(big.Int).SetUint64(x[i]))
	}
	return n
}

// narrow tells n modulo W.
func narrow(n *big.Int) api.U256 {
	var x api.U256
	rest := new(big.Int).Mod(n, bigW)
	limb := new(big.Int)
	for i := range x {
		x[i] = limb.And(rest, new(big.Int).SetUint64(most)).Uint64()
		rest.Rsh(rest, 64)
	}
	return x
}

// join tells high * W + low.
func join(high, low api.U256) *big.Int {
	n := new(big.Int).Mul(wide(high), bigW)
	return n.Add(n, wide(low))
}

// edges: all numbers whose limbs are 0, 1, a top bit alone, or the greatest.
func edges() []api.U256 {
	limbs := []uint64{0, 1, high, most}
	var all []api.U256
	for _, a := range limbs {
		for _, b := range limbs {
			for _, c := range limbs {
				for _, d := range limbs {
					all = append(all, api.U256{a, b, c, d})
				}
			}
		}
	}
	return all
}

// sample: a few edges, for tests that try all triples.
func sample() []api.U256 {
	row := chance.Row(3)
	all := []api.U256{
		zero, one, num(2), num(10), num(most), {0, 1}, {1, 1}, {most, most}, {0, 0, 1}, {1, 0, 1}, {most, most, most},
		{0, 0, 0, 1}, {0, 0, 0, high}, {1, 0, 0, high}, {most, most, most, high - 1}, {0, most, most, most}, {most - 1, most, most, most}, top,
	}
	for range 16 {
		all = append(all, row.Number())
	}
	return all
}

// checkPairs holds f against what math/big tells, for all pairs of edges and many others.
func checkPairs(t *testing.T, f func(t *testing.T, x, y api.U256)) {
	t.Helper()
	all := edges()
	for _, x := range all {
		for _, y := range all {
			f(t, x, y)
		}
	}
	row := chance.Row(1)
	for range 20000 {
		f(t, row.Number(), row.Number())
	}
}

// checkTriples does so for triples.
func checkTriples(t *testing.T, f func(t *testing.T, x, y, m api.U256)) {
	t.Helper()
	all := sample()
	for _, x := range all {
		for _, y := range all {
			for _, m := range all {
				f(t, x, y, m)
			}
		}
	}
	row := chance.Row(2)
	for range 40000 {
		f(t, row.Number(), row.Number(), row.Number())
	}
}

// parse tells a number that stands in a test as text.
func parse(t *testing.T, digits string) api.U256 {
	t.Helper()
	n, ok := new(big.Int).SetString(digits, 0)
	if !ok || n.Sign() < 0 || n.Cmp(bigW) >= 0 {
		t.Fatalf("no number: %s", digits)
	}
	return narrow(n)
}

// The helpers themselves: an error in them would hide one in the program.
func TestHelpers(t *testing.T) {
	if wide(api.U256{1, 2, 3, 4}).Text(16) != "4000000000000000300000000000000020000000000000001" {
		t.Error("wide")
	}
	for _, x := range edges() {
		if narrow(wide(x)) != x {
			t.Errorf("narrow(wide(%v))", x)
		}
	}
	if parse(t, "0x10000000000000007") != (api.U256{7, 1}) || u256.From(7) != num(7) {
		t.Error("parse")
	}
}

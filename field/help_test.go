package field_test

import (
	"math/big"
	"testing"

	"waybill/api"
	"waybill/chance"
	"waybill/u256"
)

const most = 1<<64 - 1 // the greatest limb

var (
	zero  = api.U256{}
	one   = api.U256{1}
	top   = api.U256{most, most, most, most} // 2^256 - 1
	kinds = []int{api.FieldP, api.FieldN}
	none  = []int{-1 << 63, -1 << 32, -2, -1, 2, 3, 256, 1 << 32, 1 << 40, 1<<63 - 1} // kinds that are none, some with the low bits of one
)

func num(v uint64) api.U256 { return api.U256{v} }

// modelModulus makes p by its rule and n of the chapter's digits, both without the program's table.
func modelModulus(k int) *big.Int {
	if k == api.FieldP {
		m := new(big.Int).Lsh(big.NewInt(1), 256)
		m.Sub(m, new(big.Int).Lsh(big.NewInt(1), 32))
		return m.Sub(m, big.NewInt(977))
	}
	m, _ := new(big.Int).SetString("fffffffffffffffffffffffffffffffebaaedce6af48a03bbfd25e8cd0364141", 16)
	return m
}

// near tells the modulus and v more, or less, if v is below 0.
func near(k int, v int64) api.U256 {
	return narrow(new(big.Int).Add(modelModulus(k), big.NewInt(v)))
}

// wide tells x for math/big, narrow goes back: by u256's bytes, which its own tests hold against math/big.

func wide(x api.U256) *big.Int {
	b := u256.Put(x)
	return new(big.Int).SetBytes(b[:])
}

func narrow(n *big.Int) api.U256 {
	x, e := u256.Get(n.Bytes())
	if e != api.OK || n.Sign() < 0 {
		panic("not below 2^256: " + n.String())
	}
	return x
}

// modulo tells what the program must: n modulo the kind's modulus.
func modulo(k int, n *big.Int) api.U256 {
	return narrow(new(big.Int).Mod(n, modelModulus(k)))
}

// edges: the numbers around 0, around both moduli, around what 2^256 is less them, around the half and the quarter, and around each limb's end.
func edges() []api.U256 {
	all := []api.U256{zero, one, num(2), num(3), top, {most - 1, most, most, most}}
	whole := new(big.Int).Lsh(big.NewInt(1), 256)
	var middles []*big.Int
	for _, k := range kinds {
		m := modelModulus(k)
		middles = append(middles, m, new(big.Int).Sub(whole, m), new(big.Int).Rsh(m, 1), new(big.Int).Rsh(m, 2))
	}
	for _, places := range []uint{32, 64, 128, 192, 255} {
		middles = append(middles, new(big.Int).Lsh(big.NewInt(1), places))
	}
	for _, middle := range middles {
		for v := int64(-2); v <= 2; v++ {
			all = append(all, narrow(new(big.Int).Add(middle, big.NewInt(v))))
		}
	}
	return all
}

// checkPairs calls f with all pairs of edges and with many other pairs, for both kinds.
func checkPairs(f func(k int, x, y api.U256)) {
	all := edges()
	row := chance.Row(1)
	for _, k := range kinds {
		for _, x := range all {
			for _, y := range all {
				f(k, x, y)
			}
		}
		for range 5000 {
			f(k, row.Number(), row.Number())
		}
	}
}

// checkEach calls f with all edges and with n other numbers, for both kinds.
func checkEach(n int, f func(k int, x api.U256)) {
	row := chance.Row(2)
	for _, k := range kinds {
		for _, x := range edges() {
			f(k, x)
		}
		for range n {
			f(k, row.Number())
		}
	}
}

// The helpers themselves: an error in them would hide one in the program.
func TestHelpers(t *testing.T) {
	if text := modelModulus(api.FieldP).Text(16); text != "fffffffffffffffffffffffffffffffffffffffffffffffffffffffefffffc2f" {
		t.Errorf("p = %s", text)
	}
	for _, k := range kinds {
		if !modelModulus(k).ProbablyPrime(20) {
			t.Errorf("the modulus of the kind %d is no prime", k)
		}
	}
	if near(api.FieldN, -1) != (api.U256{0xbfd25e8cd0364140, 0xbaaedce6af48a03b, 0xfffffffffffffffe, most}) {
		t.Error("near")
	}
	for _, x := range edges() {
		if narrow(wide(x)) != x {
			t.Errorf("narrow(wide(%x))", x)
		}
	}
	if modulo(api.FieldP, big.NewInt(-1)) != near(api.FieldP, -1) || modulo(api.FieldN, wide(near(api.FieldN, 5))) != num(5) {
		t.Error("modulo")
	}
}

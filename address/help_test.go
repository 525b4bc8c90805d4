package address_test

import (
	"encoding/hex"
	"math/big"
	"slices"
	"testing"

	"waybill/api"
	"waybill/chance"
	"waybill/curve"
	"waybill/keccak"
)

const most = 1<<64 - 1 // the greatest limb, and the greatest nonce

var (
	nobody   = api.Address{}
	identity = api.Point{Identity: true}
	top      = api.U256{most, most, most, most} // 2^256 - 1
)

// unhex reads bytes in hexadecimal digits.
func unhex(s string) []byte {
	b, err := hex.DecodeString(s)
	if err != nil {
		panic("not digits: " + s)
	}
	return b
}

func called(s string) api.Address { return api.Address(unhex(s)) }

func number(s string) api.U256 { return narrow(new(big.Int).SetBytes(unhex(s))) }

// wide tells x for math/big, narrow goes back: limb by limb, as the document's Words have a number.

func wide(x api.U256) *big.Int {
	n := new(big.Int)
	for _, limb := range slices.Backward(x[:]) {
		n.Lsh(n, 64).Add(n, new(big.Int).SetUint64(limb))
	}
	return n
}

func narrow(n *big.Int) api.U256 {
	if n.Sign() < 0 || n.BitLen() > 256 {
		panic("not below 2^256: " + n.String())
	}
	var x api.U256
	for i := range x {
		x[i] = new(big.Int).Rsh(n, uint(64*i)).Uint64()
	}
	return x
}

func prime() *big.Int {
	return new(big.Int).SetBytes(unhex("fffffffffffffffffffffffffffffffffffffffffffffffffffffffefffffc2f"))
}

func order() *big.Int {
	return new(big.Int).SetBytes(unhex("fffffffffffffffffffffffffffffffebaaedce6af48a03bbfd25e8cd0364141"))
}

// near tells m and v more, or less, if v is below 0.
func near(m *big.Int, v int64) api.U256 { return narrow(new(big.Int).Add(m, big.NewInt(v))) }

// The models follow the chapter's words. Digests are layer 2's and multiples of G layer 5's, which have tests of their own.

func modelLast(text []byte) api.Address {
	digest := keccak.Sum(text)
	var a api.Address
	copy(a[:], digest[12:])
	return a
}

func modelOfPoint(p api.Point) (api.Address, api.Errno) {
	x, y := wide(p.X), wide(p.Y)
	rest := new(big.Int).Mul(y, y)
	rest.Sub(rest, new(big.Int).Exp(x, big.NewInt(3), nil))
	rest.Sub(rest, big.NewInt(7))
	if p.Identity || x.Cmp(prime()) >= 0 || y.Cmp(prime()) >= 0 || rest.Mod(rest, prime()).Sign() != 0 {
		return nobody, api.ErrCurvePoint
	}
	text := make([]byte, 64)
	x.FillBytes(text[:32])
	y.FillBytes(text[32:])
	return modelLast(text), api.OK
}

func modelOfKey(key api.U256) (api.Address, api.Errno) {
	if n := wide(key); n.Sign() == 0 || n.Cmp(order()) >= 0 {
		return nobody, api.ErrKey
	}
	return modelOfPoint(curve.MulG(key))
}

func modelCreate(sender api.Address, nonce uint64) api.Address {
	second := new(big.Int).SetUint64(nonce).Bytes()
	if nonce == 0 || nonce >= 0x80 {
		second = append([]byte{0x80 + byte(len(second))}, second...)
	}
	payload := slices.Concat([]byte{0x80 + 20}, sender[:], second)
	return modelLast(append([]byte{0xc0 + byte(len(payload))}, payload...))
}

func modelCreate2(maker api.Address, salt api.Hash, code []byte) api.Address {
	inner := keccak.Sum(code)
	text := slices.Concat([]byte{0xff}, maker[:], salt[:], inner[:])
	if len(text) != 85 {
		panic("not 85 bytes")
	}
	return modelLast(text)
}

func modelRow(sender api.Address, from uint64, count int) ([]api.Address, api.Errno) {
	last := new(big.Int).Add(new(big.Int).SetUint64(from), big.NewInt(int64(count)))
	last.Sub(last, big.NewInt(1))
	if count < 0 || count > 4096 || count > 0 && !last.IsUint64() {
		return nil, api.ErrArg
	}
	var row []api.Address
	for i := range count {
		row = append(row, modelCreate(sender, from+uint64(i)))
	}
	return row, api.OK
}

func anyAddress(row *chance.Row) api.Address { return api.Address(row.Text(20)) }

func anyHash(row *chance.Row) api.Hash { return api.Hash(row.Text(32)) }

// anyPoint tells a point with an x by chance.
func anyPoint(row *chance.Row) api.Point {
	for {
		if p, e := curve.Lift(row.Number(), row.Below(2) == 0); e == api.OK {
			return p
		}
	}
}

// points: G and small multiples of it, their opposites, points whose x or y has zeros ahead, points with an x beside n and p.
func points() []api.Point {
	all := []api.Point{curve.G()}
	for v := int64(1); v < 20; v++ {
		all = append(all, curve.MulG(api.U256{uint64(v)}), curve.MulG(near(order(), -v)))
		for _, odd := range []bool{false, true} {
			for _, x := range []api.U256{{uint64(v)}, {0, uint64(v)}, near(order(), v), near(order(), -v), near(prime(), -v)} {
				if p, e := curve.Lift(x, odd); e == api.OK {
					all = append(all, p)
				}
			}
		}
	}
	return append(all, lowY())
}

// lowY tells a point whose y is so small that y + p has 256 bits.
func lowY() api.Point {
	third := new(big.Int).Div(new(big.Int).Add(prime(), big.NewInt(2)), big.NewInt(9)) // the power that tells a cube's root, p being 7 modulo 9
	for y := int64(1); ; y++ {
		cube := new(big.Int).Mod(big.NewInt(y*y-7), prime())
		p := api.Point{X: narrow(new(big.Int).Exp(cube, third, prime())), Y: api.U256{uint64(y)}}
		if curve.On(p) {
			return p
		}
	}
}

// nonces: all that have one byte or hardly more, and those beside the powers of 2.
func nonces() []uint64 {
	var all []uint64
	for v := range uint64(600) {
		all = append(all, v, most-v)
	}
	for i := range 64 {
		for v := range uint64(3) {
			all = append(all, 1<<i+v, 1<<i-v)
		}
	}
	return all
}

// The helpers themselves: an error in them would hide one in the program.
func TestHelpers(t *testing.T) {
	if !prime().ProbablyPrime(20) || !order().ProbablyPrime(20) || prime().Cmp(order()) <= 0 {
		t.Error("p or n")
	}
	row := chance.Row(1)
	for range 200 {
		if x := row.Number(); narrow(wide(x)) != x {
			t.Errorf("%x is not there and back", x)
		}
	}
	if narrow(big.NewInt(258)) != (api.U256{258}) || wide(api.U256{2, 1}).Text(16) != "10000000000000002" || near(order(), 1)[0] != 0xbfd25e8cd0364142 {
		t.Error("wide, narrow, near")
	}
	var shortX, shortY, beyond int
	for _, p := range points() {
		if !curve.On(p) || p.Identity {
			t.Errorf("%v is no point", p)
		}
		if p.X[3] == 0 {
			shortX++
		}
		if p.Y[3] == 0 {
			shortY++
		}
		if wide(p.X).Cmp(order()) > 0 {
			beyond++
		}
	}
	if shortX == 0 || shortY == 0 || beyond == 0 {
		t.Errorf("points: %d, %d, %d", shortX, shortY, beyond)
	}
}

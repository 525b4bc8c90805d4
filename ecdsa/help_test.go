package ecdsa_test

import (
	"crypto/hmac"
	"crypto/sha256"
	"math/big"
	"slices"
	"testing"

	"waybill/api"
	"waybill/chance"
	"waybill/curve"
	"waybill/u256"
)

const most = 1<<64 - 1 // the greatest limb

var (
	zero     = api.U256{}
	one      = api.U256{1}
	top      = api.U256{most, most, most, most} // 2^256 - 1
	noSig    = api.Sig{}
	noPoint  = api.Point{}
	identity = api.Point{Identity: true}
	base     = curve.G()
)

func num(v uint64) api.U256 { return api.U256{v} }

// digits reads a number in hexadecimal digits.
func digits(s string) api.U256 {
	n, ok := new(big.Int).SetString(s, 16)
	if !ok {
		panic("not digits: " + s)
	}
	return narrow(n)
}

// wide tells x for math/big, narrow goes back: by u256's bytes, which its own tests hold against math/big.

func wide(x api.U256) *big.Int {
	b := u256.Put(x)
	return new(big.Int).SetBytes(b[:])
}

func narrow(n *big.Int) api.U256 {
	x, e := u256.Get(n.Bytes())
	if e != api.OK || n.Sign() < 0 {
		panic("not below 2^256: " + n.String())
	}
	return x
}

// order, prime and half are n, p and (n - 1) / 2 of the chapters' digits.

func order() *big.Int {
	return wide(digits("fffffffffffffffffffffffffffffffebaaedce6af48a03bbfd25e8cd0364141"))
}

func prime() *big.Int {
	return wide(digits("fffffffffffffffffffffffffffffffffffffffffffffffffffffffefffffc2f"))
}

func half() *big.Int {
	return wide(digits("7fffffffffffffffffffffffffffffff5d576e7357a4501ddfe92f46681b20a0"))
}

// near tells m and v more, or less, if v is below 0.
func near(m *big.Int, v int64) api.U256 { return narrow(new(big.Int).Add(m, big.NewInt(v))) }

// The arithmetic modulo n, by math/big.

func modN(n *big.Int) api.U256 { return narrow(new(big.Int).Mod(n, order())) }

func add(x, y api.U256) api.U256 { return modN(new(big.Int).Add(wide(x), wide(y))) }

func sub(x, y api.U256) api.U256 { return modN(new(big.Int).Sub(wide(x), wide(y))) }

func mul(x, y api.U256) api.U256 { return modN(new(big.Int).Mul(wide(x), wide(y))) }

func over(x, y api.U256) api.U256 {
	return mul(x, narrow(new(big.Int).ModInverse(wide(y), order())))
}

// hash tells the digest with that number, number the digest's number modulo n.

func hash(x api.U256) api.Hash { return api.Hash(u256.Put(x)) }

func number(digest api.Hash) api.U256 { return modN(new(big.Int).SetBytes(digest[:])) }

// modelMac is HMAC with SHA-256 of the parts put one behind the other.
func modelMac(key []byte, parts ...[]byte) []byte {
	mac := hmac.New(sha256.New, key)
	mac.Write(slices.Concat(parts...))
	return mac.Sum(nil)
}

// modelNonces follows P6.1 word for word and tells the first fit candidates.
func modelNonces(key api.U256, digest api.Hash, count int) []api.U256 {
	d, e := hash(key), hash(number(digest))
	v, k := slices.Repeat([]byte{1}, 32), make([]byte, 32)
	k = modelMac(k, v, []byte{0}, d[:], e[:])
	v = modelMac(k, v)
	k = modelMac(k, v, []byte{1}, d[:], e[:])
	v = modelMac(k, v)
	var all []api.U256
	for i := 0; len(all) < count; i++ {
		if i > 0 {
			k = modelMac(k, v, []byte{0})
			v = modelMac(k, v)
		}
		v = modelMac(k, v)
		candidate := new(big.Int).SetBytes(v)
		if candidate.Sign() > 0 && candidate.Cmp(order()) < 0 {
			all = append(all, narrow(candidate))
		}
	}
	return all
}

// isInside tells whether x is 1 to n - 1.
func isInside(x api.U256) bool { return x != zero && wide(x).Cmp(order()) < 0 }

// modelSignWith follows P6.3 word for word.
func modelSignWith(key, nonce api.U256, digest api.Hash) (api.Sig, api.Errno) {
	if !isInside(key) || !isInside(nonce) {
		return noSig, api.ErrKey
	}
	at := curve.MulG(nonce)
	if wide(at.X).Cmp(order()) >= 0 {
		return noSig, api.ErrSigX
	}
	s := over(add(number(digest), mul(at.X, key)), nonce)
	if s == zero {
		return noSig, api.ErrSigZero
	}
	odd := at.Y[0]%2 == 1
	if wide(s).Cmp(half()) > 0 {
		return api.Sig{R: at.X, S: sub(zero, s), Odd: !odd}, api.OK
	}
	return api.Sig{R: at.X, S: s, Odd: odd}, api.OK
}

// modelCheck follows P6.5 word for word.
func modelCheck(s api.Sig) api.Errno {
	if !isInside(s.R) {
		return api.ErrSigR
	}
	if !isInside(s.S) {
		return api.ErrSigS
	}
	if wide(s.S).Cmp(half()) > 0 {
		return api.ErrSigHigh
	}
	return api.OK
}

func times(k api.U256, p api.Point) api.Point {
	q, e := curve.Mul(k, p)
	if e != api.OK {
		panic("no point")
	}
	return q
}

func plus(p, q api.Point) api.Point {
	r, e := curve.Add(p, q)
	if e != api.OK {
		panic("no point")
	}
	return r
}

func minus(p api.Point) api.Point {
	q, e := curve.Neg(p)
	if e != api.OK {
		panic("no point")
	}
	return q
}

// modelVerify follows P6.6 word for word.
func modelVerify(pub api.Point, digest api.Hash, s api.Sig) (bool, api.Errno) {
	if !curve.On(pub) || pub.Identity {
		return false, api.ErrCurvePoint
	}
	if e := modelCheck(s); e != api.OK {
		return false, e
	}
	at := plus(times(over(number(digest), s.S), base), times(over(s.R, s.S), pub))
	return !at.Identity && modN(wide(at.X)) == modN(wide(s.R)), api.OK
}

// modelRecover follows P6.7 word for word.
func modelRecover(digest api.Hash, s api.Sig) (api.Point, api.Errno) {
	if e := modelCheck(s); e != api.OK {
		return noPoint, e
	}
	at, e := curve.Lift(s.R, s.Odd)
	if e != api.OK {
		return noPoint, api.ErrSigX
	}
	pub := times(over(one, s.R), plus(times(s.S, at), minus(times(number(digest), base))))
	if pub.Identity {
		return noPoint, api.ErrSigZero
	}
	return pub, api.OK
}

// keys are right ones at the edges, and some by chance; wrongKeys are none.

func keys() []api.U256 {
	row := chance.Row(60)
	all := []api.U256{one, num(2), num(3), {0, 1}, {0, 0, 0, 1 << 63}, narrow(half()), near(half(), 1), near(order(), -2), near(order(), -1)}
	for range 6 {
		all = append(all, anyKey(&row))
	}
	return all
}

func wrongKeys() []api.U256 {
	return []api.U256{zero, narrow(order()), near(order(), 1), near(prime(), -1), narrow(prime()), near(prime(), 1), near(wide(top), -1), top}
}

// anyKey tells a number from 1 to n - 1.
func anyKey(row *chance.Row) api.U256 {
	for {
		if x := row.Number(); isInside(x) {
			return x
		}
	}
}

// anyLow tells a number from 1 to (n - 1) / 2.
func anyLow(row *chance.Row) api.U256 {
	x := anyKey(row)
	if wide(x).Cmp(half()) > 0 {
		return sub(zero, x)
	}
	return x
}

// hashes are digests at the edges: those of n and above are taken modulo n.
func hashes() []api.Hash {
	row := chance.Row(61)
	all := []api.Hash{{}, {31: 1}, {0: 0x80}, hash(near(order(), -1)), hash(narrow(order())), hash(near(order(), 1)), hash(narrow(prime())), hash(top), hash(narrow(half()))}
	for range 4 {
		all = append(all, anyHash(&row))
	}
	return all
}

func anyHash(row *chance.Row) api.Hash { return hash(row.Number()) }

// wrongPoints are no public keys: the identity, and what stands for no point.
func wrongPoints() []api.Point {
	return []api.Point{
		identity, {}, {X: base.X}, {Y: base.Y}, {X: base.X, Y: base.X}, {X: one, Y: one},
		{X: base.X, Y: base.Y, Identity: true}, {X: one, Identity: true}, {Y: one, Identity: true},
		{X: narrow(prime()), Y: base.Y}, {X: base.X, Y: top}, {X: top, Y: top}, {X: base.X, Y: near(wide(base.Y), 1)},
	}
}

// parts are an r or an s at the edges that the chapter names, right ones and wrong ones.
func parts() []api.U256 {
	return []api.U256{
		zero, one, num(2), num(5), base.X, near(half(), -1), narrow(half()), near(half(), 1), near(half(), 2), near(order(), -2), near(order(), -1),
		narrow(order()), near(order(), 1), narrow(prime()), {0, 1}, {0, 0, 0, 1 << 63}, {most, most, most, most >> 1}, top,
	}
}

// The helpers themselves: an error in them would hide one in the program.
func TestHelpers(t *testing.T) {
	if !order().ProbablyPrime(20) || !prime().ProbablyPrime(20) {
		t.Error("n or p")
	}
	if twice := new(big.Int).Lsh(half(), 1); twice.Add(twice, big.NewInt(1)).Cmp(order()) != 0 {
		t.Error("half")
	}
	for _, k := range keys() {
		if !isInside(k) || mul(over(num(7), k), k) != num(7) || add(sub(num(7), k), k) != num(7) {
			t.Errorf("the key %v", k)
		}
	}
	for _, k := range wrongKeys() {
		if isInside(k) {
			t.Errorf("the wrong key %v", k)
		}
	}
	for _, p := range wrongPoints() {
		if curve.On(p) && p != identity {
			t.Errorf("the wrong point %v", p)
		}
	}
	if number(hash(near(order(), 3))) != num(3) || number(api.Hash{30: 1, 31: 2}) != num(258) {
		t.Error("number")
	}
}

package access_test

import (
	"bytes"
	"math/big"
	"slices"
	"testing"

	"waybill/access"
	"waybill/address"
	"waybill/api"
	"waybill/chance"
	"waybill/curve"
	"waybill/keccak"
)

// checkSign holds SignAuth against its model (P14.8, P0.2) and tells its answer.
func checkSign(t *testing.T, a api.Auth, key api.U256) (api.Auth, api.Errno) {
	t.Helper()
	want, wantE := modelSign(a, key)
	got, e := access.SignAuth(a, key)
	if got != want || e != wantE {
		t.Errorf("SignAuth(%v, %x) = %v, %d, want %v, %d", a, key, got, e, want, wantE)
	}
	return got, e
}

// checkAuthority holds Authority against its model (P14.9, P0.2) and tells its error.
func checkAuthority(t *testing.T, a api.Auth) api.Errno {
	t.Helper()
	want, wantE := modelAuthority(a)
	if got, e := access.Authority(a); got != want || e != wantE {
		t.Errorf("Authority(%v) = %x, %d, want %x, %d", a, got, e, want, wantE)
	}
	return wantE
}

// refused wants just that error of Authority, and nobody beside it.
func refused(t *testing.T, a api.Auth, want api.Errno) {
	t.Helper()
	if got, e := access.Authority(a); got != nobody || e != want {
		t.Errorf("Authority(%v) = %x, %d, want %d", a, got, e, want)
	}
	checkAuthority(t, a)
}

func checkDigest(t *testing.T, a api.Auth) {
	t.Helper()
	if got, want := access.AuthDigest(a), modelDigest(a); got != want {
		t.Errorf("AuthDigest(%v) = %x, want %x", a, got, want)
	}
}

// P14.7, P14.8, P14.9: the chapter's fourth example and the fifth.
func TestExamplesOfSigning(t *testing.T) {
	a := api.Auth{Chain: api.U256{1}}
	digest := access.AuthDigest(a)
	if !bytes.Equal(digest[:], digits("20aed0d1fcfcae79908c669252609bf10de3cc521c36d631c62eea3e826c79ad")) {
		t.Errorf("AuthDigest = %x", digest)
	}
	if digest != keccak.Sum(digits("05 d7 01 94 0000000000000000000000000000000000000000 80")) {
		t.Error("AuthDigest is not by the bytes that the example names")
	}
	signed, e := access.SignAuth(a, api.U256{1})
	who, f := access.Authority(signed)
	if e != api.OK || f != api.OK || !bytes.Equal(who[:], digits("7e5f4552091a69125d5dfcb7b8c2659029395bdf")) {
		t.Errorf("Authority of SignAuth = %x, %d, %d", who, e, f)
	}
	if got, e := access.SignAuth(a, api.U256{}); got != noAuth || e != api.ErrKey {
		t.Errorf("SignAuth with the key 0 = %v, %d", got, e)
	}
	refused(t, api.Auth{Parity: 2, R: api.U256{1}, S: api.U256{1}}, api.ErrAuth)
	refused(t, api.Auth{R: api.U256{0}, S: api.U256{1}}, api.ErrSigR)
}

// P14.7: Chain, Address and Nonce count, each bit of them; Parity, R and S don't.
func TestAuthDigest(t *testing.T) {
	row := chance.Row(1420)
	for range 500 {
		checkDigest(t, anyAuth(&row))
	}
	a := api.Auth{Chain: row.Number(), Address: anyAddress(&row), Nonce: row.Next(), Parity: 1, R: row.Number(), S: row.Number()}
	seen := map[api.Hash]int{access.AuthDigest(a): -1}
	for i := range 256 + 160 + 64 {
		b := a
		switch {
		case i < 256:
			b.Chain[i/64] ^= 1 << (i % 64)
		case i < 256+160:
			b.Address[(i-256)/8] ^= 1 << (i % 8)
		default:
			b.Nonce ^= 1 << (i - 256 - 160)
		}
		checkDigest(t, b)
		digest := access.AuthDigest(b)
		if other, ok := seen[digest]; ok {
			t.Errorf("the bits %d and %d turned: one digest", i, other)
		}
		seen[digest] = i
	}
	for _, b := range []api.Auth{{Chain: a.Chain, Address: a.Address, Nonce: a.Nonce}, {Chain: a.Chain, Address: a.Address, Nonce: a.Nonce, Parity: most, R: top, S: top}} {
		if access.AuthDigest(b) != access.AuthDigest(a) {
			t.Errorf("the digest hangs on %v", b)
		}
	}
	for _, b := range []api.Auth{{}, {Chain: top, Address: api.Address(bytes.Repeat([]byte{0xff}, 20)), Nonce: most}, {Nonce: 0x7f}, {Nonce: 0x80}, {Chain: api.U256{0x7f}}, {Chain: api.U256{0x80}}, {Nonce: most - 1}} {
		checkDigest(t, b)
	}
	for i := range 256 { // heads of one byte and of two
		x := api.U256{}
		x[i/64] = 1 << (i % 64)
		checkDigest(t, api.Auth{Chain: x, Nonce: 1 << (i % 64)})
	}
}

// P14.8, P14.9, P14.10: keys at both ends and by chance; what stood in Parity, R and S counts for nothing, and whoever signs is told.
func TestSignAuth(t *testing.T) {
	row := chance.Row(1421)
	keys := []api.U256{{1}, {2}, {3}, near(order(), -1), near(order(), -2), near(half(), 0), near(half(), 1)}
	for range 100 {
		keys = append(keys, narrow(new(big.Int).Mod(wide(row.Number()), order())))
	}
	parities := map[uint64]int{}
	for _, key := range keys {
		if key == (api.U256{}) {
			continue
		}
		a := anyAuth(&row)
		signed, e := checkSign(t, a, key)
		if e != api.OK {
			t.Errorf("SignAuth(%v, %x): %d", a, key, e)
		}
		a.Parity, a.R, a.S = most, top, top
		if again, e := access.SignAuth(a, key); again != signed || e != api.OK {
			t.Errorf("what stood in Parity, R and S counts: %v, %d", again, e)
		}
		if again, e := access.SignAuth(signed, key); again != signed || e != api.OK {
			t.Errorf("signed again, it is another one: %v, %d", again, e)
		}
		want, _ := address.OfKey(key)
		if got, e := access.Authority(signed); got != want || e != api.OK {
			t.Errorf("Authority of SignAuth with %x = %x, %d", key, got, e)
		}
		parities[signed.Parity]++
	}
	if parities[0] < 20 || parities[1] < 20 || len(parities) != 2 {
		t.Errorf("the parities that came: %v", parities)
	}
}

// P14.8: wrong keys, and the greatest nonce, which comes ahead of them.
func TestSignAuthRefused(t *testing.T) {
	row := chance.Row(1422)
	wrong := []api.U256{{}, near(order(), 0), near(order(), 1), top}
	for _, key := range wrong {
		for _, nonce := range []uint64{0, 1, most - 1} {
			a := anyAuth(&row)
			a.Nonce = nonce
			if got, e := checkSign(t, a, key); got != noAuth || e != api.ErrKey {
				t.Errorf("SignAuth with the key %x: %d", key, e)
			}
		}
	}
	for _, key := range append(wrong, api.U256{1}, near(order(), -1)) {
		a := anyAuth(&row)
		a.Nonce = most
		if got, e := checkSign(t, a, key); got != noAuth || e != api.ErrAuth {
			t.Errorf("SignAuth of the greatest nonce: %d", e)
		}
	}
	if _, e := checkSign(t, api.Auth{Nonce: most - 1}, api.U256{1}); e != api.OK {
		t.Errorf("SignAuth of the greatest nonce but one: %d", e)
	}
}

// P14.9: each error, and which one comes first.
func TestAuthorityRefused(t *testing.T) {
	signed, e := access.SignAuth(api.Auth{Chain: api.U256{7}, Address: api.Address{1}, Nonce: 5}, api.U256{9})
	if e != api.OK {
		t.Fatalf("SignAuth: %d", e)
	}
	with := func(change func(a *api.Auth)) api.Auth {
		a := signed
		change(&a)
		return a
	}
	for _, parity := range []uint64{2, 3, 27, 28, 255, 256, 257, 1 << 32, 1<<32 + 1, 1 << 63, most} {
		refused(t, with(func(a *api.Auth) { a.Parity = parity }), api.ErrAuth)
		refused(t, with(func(a *api.Auth) { a.Parity, a.Nonce = parity, most }), api.ErrAuth)
		refused(t, api.Auth{Parity: parity}, api.ErrAuth)
	}
	refused(t, with(func(a *api.Auth) { a.Nonce = most }), api.ErrAuth)
	refused(t, api.Auth{Nonce: most}, api.ErrAuth)
	refused(t, api.Auth{Nonce: most - 1}, api.ErrSigR)
	for _, x := range []api.U256{{}, near(order(), 0), near(order(), 1), top} {
		refused(t, with(func(a *api.Auth) { a.R = x }), api.ErrSigR)
		refused(t, with(func(a *api.Auth) { a.R, a.S = x, x }), api.ErrSigR)
		refused(t, with(func(a *api.Auth) { a.S = x }), api.ErrSigS)
	}
	for _, s := range []api.U256{near(half(), 1), near(order(), -1), narrow(new(big.Int).Sub(order(), wide(signed.S)))} {
		refused(t, with(func(a *api.Auth) { a.S = s }), api.ErrSigHigh)
		refused(t, with(func(a *api.Auth) { a.R, a.S = api.U256{5}, s }), api.ErrSigHigh)
	}
	refused(t, with(func(a *api.Auth) { a.R = api.U256{5} }), api.ErrSigX) // no point has the x 5
	if e := checkAuthority(t, with(func(a *api.Auth) { a.S = near(half(), 0) })); e != api.OK {
		t.Errorf("the greatest s that is low: %d", e)
	}
}

// P14.9: R being G, or its opposite, and s the digest's number or its opposite, the key would be the identity.
func TestAuthorityNobody(t *testing.T) {
	row := chance.Row(1423)
	opposites := 0
	for range 20 {
		a := anyAuth(&row)
		a.Nonce, a.Parity, a.R = a.Nonce/2, 0, curve.G().X // the y of G is even
		digest := access.AuthDigest(a)
		s := new(big.Int).Mod(new(big.Int).SetBytes(digest[:]), order())
		if s.Cmp(half()) > 0 {
			s.Sub(order(), s)
			a.Parity = 1
			opposites++
		}
		a.S = narrow(s)
		refused(t, a, api.ErrSigZero)
		a.Parity ^= 1
		if e := checkAuthority(t, a); e != api.OK {
			t.Errorf("the other point: %d", e)
		}
	}
	if opposites < 3 || opposites > 17 {
		t.Errorf("%d opposites of 20", opposites)
	}
}

// P14.9: signatures that nobody has made tell somebody too, or are refused; another parity, or a changed field, tells somebody else.
func TestAuthority(t *testing.T) {
	row := chance.Row(1424)
	counts := map[api.Errno]int{}
	for range 300 {
		a := anyAuth(&row)
		a.Parity %= 3
		if row.Below(2) == 0 {
			a.S[3] >>= 1
		}
		counts[checkAuthority(t, a)]++
	}
	if counts[api.OK] < 20 || counts[api.ErrAuth] < 20 || counts[api.ErrSigX] < 20 || counts[api.ErrSigHigh] < 5 || counts[api.ErrSigR] == 0 || counts[api.ErrSigS] == 0 {
		t.Errorf("an answer hardly ever comes: %v", counts)
	}
	for range 20 {
		a := anyAuth(&row)
		a.Nonce /= 2
		signed, _ := access.SignAuth(a, api.U256{row.Next() | 1})
		owner, _ := access.Authority(signed)
		others := slices.Repeat([]api.Auth{signed}, 4)
		others[0].Parity ^= 1
		others[1].Chain[row.Below(4)] ^= 1
		others[2].Address[row.Below(20)] ^= 1
		others[3].Nonce ^= 1
		for i, other := range others {
			checkAuthority(t, other)
			if got, _ := access.Authority(other); got == owner {
				t.Errorf("change %d: the same authority", i)
			}
		}
	}
}
